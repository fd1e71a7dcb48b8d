/- Contracts of the document's looking: bad, head, variable, expr. -/
import Derived.Test.YtpbdjpoohpocfabRfA
namespace Go.Proofs.Ytpbdjpoohpocfab
set_option maxRecDepth 20000
set_option maxHeartbeats 4000000
namespace E
open Go.Proofs

abbrev tLk : Nat := 130
def lkC (a b : Value) (n : Nat) (c : Int) : List Value := [a, b, .int .i64 (n : Nat), .int .i64 c]
def badC (is : Bool) (c cd : Int) : Int := if is = true ∧ c = 0 then cd else c

section
variable {w : World} {j n : Nat} {a b : Value} {c : Int}

theorem bad_ret (h : Blk w j (lkC a b n c) tLk) (is : Bool) (cd : Int) :
    Ret Try.prog 96 [.pointer (some ⟨j, 0, none⟩), .bool is, .int .i64 cd] w fun r w' => r = .tuple #[] ∧ Blk w' j (lkC a b n (badC is c cd)) tLk ∧ Keep [j] w w' := by
  refine ret_of 18 Try.func96 rfl rfl (by simp) ?_
  have h' := h
  unfold lkC at h'
  cases is with
  | false =>
    (repeat (first | refine pl_pure hT rfl rfl rfl ?_ | refine pl_nil ?_ | refine rn_seq ?_ | refine rn_plain ?_ | refine rn_block ?_ | refine rn_inBlock ?_ | refine rn_skip ?_ | refine rn_true rfl ?_ | refine rn_false rfl ?_ | refine rn_exit rfl ?_ | refine pl_not rfl rfl ?_))
    refine rn_end Try.func96 (.inr (.inl ⟨rfl, rfl⟩)) ⟨rfl, ?_, Keep.refl _ _⟩
    simpa [badC] using h
  | true =>
    by_cases hc : c = 0
    · (repeat (first | refine pl_pure hT rfl rfl rfl ?_ | refine pl_nil ?_ | refine rn_seq ?_ | refine rn_plain ?_ | refine rn_block ?_ | refine rn_inBlock ?_ | refine rn_skip ?_ | refine rn_true rfl ?_ | refine rn_false rfl ?_ | refine rn_exit rfl ?_ | refine pl_not rfl rfl ?_ | refine pl_val _ rfl rfl (val_load1 hT rfl rfl rfl (Blk.cell (by assumption) (by rfl))) ?_ | refine pl_yes rfl rfl rfl rfl rfl (by first | (simp only [cmpP]; omega) | (simp [cmpP]; done) | (simp [cmpP]; omega)) ?_ | refine pl_no rfl rfl rfl rfl rfl rfl (by first | (simp only [cmpP]; omega) | (simp [cmpP]; done) | (simp [cmpP]; omega)) ?_))
      refine pl_op rfl rfl (opTo_storeN [.int .i64 cd] rfl rfl rfl rfl (by kernel_rfl) h' (by simp) (by simp; rfl) ?_)
      intro w1 hs1 hk1 hB1
      (repeat (first | refine pl_pure hT rfl rfl rfl ?_ | refine pl_nil ?_ | refine rn_seq ?_ | refine rn_plain ?_ | refine rn_block ?_ | refine rn_inBlock ?_ | refine rn_skip ?_ | refine rn_true rfl ?_ | refine rn_false rfl ?_ | refine rn_exit rfl ?_ | refine pl_not rfl rfl ?_))
      refine rn_end Try.func96 (.inr (.inl ⟨rfl, rfl⟩)) ⟨rfl, ?_, hk1⟩
      have e : badC true c cd = cd := by simp [badC, hc]
      rw [e]
      exact hB1
    · (repeat (first | refine pl_pure hT rfl rfl rfl ?_ | refine pl_nil ?_ | refine rn_seq ?_ | refine rn_plain ?_ | refine rn_block ?_ | refine rn_inBlock ?_ | refine rn_skip ?_ | refine rn_true rfl ?_ | refine rn_false rfl ?_ | refine rn_exit rfl ?_ | refine pl_not rfl rfl ?_ | refine pl_val _ rfl rfl (val_load1 hT rfl rfl rfl (Blk.cell (by assumption) (by rfl))) ?_ | refine pl_yes rfl rfl rfl rfl rfl (by first | (simp only [cmpP]; omega) | (simp [cmpP]; done) | (simp [cmpP]; omega)) ?_ | refine pl_no rfl rfl rfl rfl rfl rfl (by first | (simp only [cmpP]; omega) | (simp [cmpP]; done) | (simp [cmpP]; omega)) ?_))
      refine rn_end Try.func96 (.inr (.inl ⟨rfl, rfl⟩)) ⟨rfl, ?_, Keep.refl _ _⟩
      have e : badC true c cd = c := by simp [badC, hc]
      rw [e]
      exact h

theorem head_ret (h : Blk w j (lkC a b n c) tLk) (deep : Int) (hn : n ≤ 1000) :
    Ret Try.prog 95 [.pointer (some ⟨j, 0, none⟩), .int .i64 deep] w fun r w' => r = .tuple #[] ∧ Blk w' j (lkC a b (n + 1) (badC (decide (n + 1 > 150)) (badC (decide (deep > 12)) c 4) 3)) tLk ∧ Keep [j] w w' := by
  refine ret_of 22 Try.func95 rfl rfl (by simp) ?_
  have h' := h
  unfold lkC at h'
  (repeat (first | refine pl_pure hT rfl rfl rfl ?_ | refine pl_nil ?_ | refine rn_seq ?_ | refine rn_plain ?_ | refine rn_block ?_ | refine rn_inBlock ?_ | refine rn_skip ?_ | refine rn_true rfl ?_ | refine rn_false rfl ?_ | refine rn_exit rfl ?_ | refine pl_not rfl rfl ?_ | refine pl_val _ rfl rfl (val_load1 hT rfl rfl rfl (Blk.cell (by assumption) (by rfl))) ?_ | refine pl_yes rfl rfl rfl rfl rfl (by first | (simp only [cmpP]; omega) | (simp [cmpP]; done) | (simp [cmpP]; omega)) ?_ | refine pl_no rfl rfl rfl rfl rfl rfl (by first | (simp only [cmpP]; omega) | (simp [cmpP]; done) | (simp [cmpP]; omega)) ?_))
  refine pl_num (((n + 1 : Nat) : Int)) rfl rfl rfl rfl rfl (by simp only [ariP]; omega) ?_
  (repeat (first | refine pl_pure hT rfl rfl rfl ?_ | refine pl_nil ?_ | refine rn_seq ?_ | refine rn_plain ?_ | refine rn_block ?_ | refine rn_inBlock ?_ | refine rn_skip ?_ | refine rn_true rfl ?_ | refine rn_false rfl ?_ | refine rn_exit rfl ?_ | refine pl_not rfl rfl ?_))
  refine pl_op rfl rfl (opTo_storeN [.int .i64 ((n + 1 : Nat) : Int)] rfl rfl rfl rfl (by kernel_rfl) h' (by simp) (by simp; rfl) ?_)
  intro w1 hs1 hk1 hB1
  have hB1' : Blk w1 j (lkC a b (n + 1) c) tLk := hB1
  (repeat (first | refine pl_pure hT rfl rfl rfl ?_ | refine pl_nil ?_ | refine rn_seq ?_ | refine rn_plain ?_ | refine rn_block ?_ | refine rn_inBlock ?_ | refine rn_skip ?_ | refine rn_true rfl ?_ | refine rn_false rfl ?_ | refine rn_exit rfl ?_ | refine pl_not rfl rfl ?_))
  refine pl_val (.bool (decide (deep > 12))) rfl rfl (val_int .i64 _ _ _ rfl rfl rfl (by rfl) w1) ?_
  refine pl_op rfl rfl (opTo_call rfl rfl rfl rfl (by decide +kernel) ((bad_ret hB1' (decide (deep > 12)) 4).mono ?_))
  rintro v2 w2 ⟨rfl, hB2, hk2⟩
  have hB2' := hB2
  unfold lkC at hB2'
  (repeat (first | refine pl_pure hT rfl rfl rfl ?_ | refine pl_nil ?_ | refine rn_seq ?_ | refine rn_plain ?_ | refine rn_block ?_ | refine rn_inBlock ?_ | refine rn_skip ?_ | refine rn_true rfl ?_ | refine rn_false rfl ?_ | refine rn_exit rfl ?_ | refine pl_not rfl rfl ?_))
  refine pl_val _ rfl rfl (val_load1 hT rfl rfl rfl (hB2'.cell rfl)) ?_
  refine pl_val (.bool (decide (n + 1 > 150))) rfl rfl (val_int .i64 _ _ _ rfl rfl rfl (by simp only [intOp]; congr 2; simp; omega) w2) ?_
  refine pl_op rfl rfl (opTo_call rfl rfl rfl rfl (by decide +kernel) ((bad_ret hB2 (decide (n + 1 > 150)) 3).mono ?_))
  rintro v3 w3 ⟨rfl, hB3, hk3⟩
  (repeat (first | refine pl_pure hT rfl rfl rfl ?_ | refine pl_nil ?_ | refine rn_seq ?_ | refine rn_plain ?_ | refine rn_block ?_ | refine rn_inBlock ?_ | refine rn_skip ?_ | refine rn_true rfl ?_ | refine rn_false rfl ?_ | refine rn_exit rfl ?_ | refine pl_not rfl rfl ?_))
  exact rn_end Try.func95 (.inr (.inl ⟨rfl, rfl⟩)) ⟨rfl, hB3, (hk1.tr hk2).tr hk3⟩

def varC (nv : Nat) (v : Int) (has : Bool) (c : Int) : Int := if has then badC (decide (v < 0 ∨ v ≥ (nv : Int))) c 1 else badC (decide (v ≠ 0)) c 5

theorem variable_ret {av : Option Addr} {nv capv : Nat} (h : Blk w j (lkC (.slice av nv capv) b n c) tLk) (v : Int) (has : Bool) :
    Ret Try.prog 98 [.pointer (some ⟨j, 0, none⟩), .int .i64 v, .bool has] w fun r w' => r = .tuple #[] ∧ Blk w' j (lkC (.slice av nv capv) b n (varC nv v has c)) tLk ∧ Keep [j] w w' := by
  refine ret_of 25 Try.func98 rfl rfl (by simp) ?_
  have h' := h
  unfold lkC at h'
  cases has with
  | true =>
    by_cases h1 : v < 0
    · (repeat (first | refine pl_pure hT rfl rfl rfl ?_ | refine pl_nil ?_ | refine rn_seq ?_ | refine rn_plain ?_ | refine rn_block ?_ | refine rn_inBlock ?_ | refine rn_skip ?_ | refine rn_true rfl ?_ | refine rn_false rfl ?_ | refine rn_exit rfl ?_ | refine pl_not rfl rfl ?_ | refine pl_val _ rfl rfl (val_load1 hT rfl rfl rfl (Blk.cell (by assumption) (by rfl))) ?_ | refine pl_yes rfl rfl rfl rfl rfl (by first | (simp only [cmpP]; omega) | (simp [cmpP]; done) | (simp [cmpP]; omega)) ?_ | refine pl_no rfl rfl rfl rfl rfl rfl (by first | (simp only [cmpP]; omega) | (simp [cmpP]; done) | (simp [cmpP]; omega)) ?_))
      refine pl_op rfl rfl (opTo_call rfl rfl rfl rfl (by decide +kernel) ((bad_ret h true 1).mono ?_))
      rintro v2 w2 ⟨rfl, hB2, hk2⟩
      (repeat (first | refine pl_pure hT rfl rfl rfl ?_ | refine pl_nil ?_ | refine rn_seq ?_ | refine rn_plain ?_ | refine rn_block ?_ | refine rn_inBlock ?_ | refine rn_skip ?_ | refine rn_true rfl ?_ | refine rn_false rfl ?_ | refine rn_exit rfl ?_ | refine pl_not rfl rfl ?_))
      refine rn_end Try.func98 (.inr (.inl ⟨rfl, rfl⟩)) ⟨rfl, ?_, hk2⟩
      have e : varC nv v true c = badC true c 1 := by simp [varC, h1]
      rw [e]
      exact hB2
    · (repeat (first | refine pl_pure hT rfl rfl rfl ?_ | refine pl_nil ?_ | refine rn_seq ?_ | refine rn_plain ?_ | refine rn_block ?_ | refine rn_inBlock ?_ | refine rn_skip ?_ | refine rn_true rfl ?_ | refine rn_false rfl ?_ | refine rn_exit rfl ?_ | refine pl_not rfl rfl ?_ | refine pl_val _ rfl rfl (val_load1 hT rfl rfl rfl (Blk.cell (by assumption) (by rfl))) ?_ | refine pl_yes rfl rfl rfl rfl rfl (by first | (simp only [cmpP]; omega) | (simp [cmpP]; done) | (simp [cmpP]; omega)) ?_ | refine pl_no rfl rfl rfl rfl rfl rfl (by first | (simp only [cmpP]; omega) | (simp [cmpP]; done) | (simp [cmpP]; omega)) ?_))
      refine pl_val (.bool (decide (v ≥ (nv : Int)))) rfl rfl (val_int .i64 _ _ _ rfl rfl rfl (by rfl) w) ?_
      (repeat (first | refine pl_pure hT rfl rfl rfl ?_ | refine pl_nil ?_ | refine rn_seq ?_ | refine rn_plain ?_ | refine rn_block ?_ | refine rn_inBlock ?_ | refine rn_skip ?_ | refine rn_true rfl ?_ | refine rn_false rfl ?_ | refine rn_exit rfl ?_ | refine pl_not rfl rfl ?_))
      refine pl_op rfl rfl (opTo_call rfl rfl rfl rfl (by decide +kernel) ((bad_ret h (decide (v ≥ (nv : Int))) 1).mono ?_))
      rintro v2 w2 ⟨rfl, hB2, hk2⟩
      (repeat (first | refine pl_pure hT rfl rfl rfl ?_ | refine pl_nil ?_ | refine rn_seq ?_ | refine rn_plain ?_ | refine rn_block ?_ | refine rn_inBlock ?_ | refine rn_skip ?_ | refine rn_true rfl ?_ | refine rn_false rfl ?_ | refine rn_exit rfl ?_ | refine pl_not rfl rfl ?_))
      refine rn_end Try.func98 (.inr (.inl ⟨rfl, rfl⟩)) ⟨rfl, ?_, hk2⟩
      have e : varC nv v true c = badC (decide (v ≥ (nv : Int))) c 1 := by simp [varC, h1]
      rw [e]
      exact hB2
  | false =>
    (repeat (first | refine pl_pure hT rfl rfl rfl ?_ | refine pl_nil ?_ | refine rn_seq ?_ | refine rn_plain ?_ | refine rn_block ?_ | refine rn_inBlock ?_ | refine rn_skip ?_ | refine rn_true rfl ?_ | refine rn_false rfl ?_ | refine rn_exit rfl ?_ | refine pl_not rfl rfl ?_))
    refine pl_val (.bool (decide (v ≠ 0))) rfl rfl (val_int .i64 _ _ _ rfl rfl rfl (by simp only [intOp]; congr 2; rw [Bool.eq_iff_iff]; simp) w) ?_
    refine pl_op rfl rfl (opTo_call rfl rfl rfl rfl (by decide +kernel) ((bad_ret h (decide (v ≠ 0)) 5).mono ?_))
    rintro v2 w2 ⟨rfl, hB2, hk2⟩
    (repeat (first | refine pl_pure hT rfl rfl rfl ?_ | refine pl_nil ?_ | refine rn_seq ?_ | refine rn_plain ?_ | refine rn_block ?_ | refine rn_inBlock ?_ | refine rn_skip ?_ | refine rn_true rfl ?_ | refine rn_false rfl ?_ | refine rn_exit rfl ?_ | refine pl_not rfl rfl ?_))
    exact rn_end Try.func98 (.inr (.inl ⟨rfl, rfl⟩)) ⟨rfl, hB2, hk2⟩
end

/-- From how many parts, and which code, to how many and which, by a check. -/
def Tr (x : Nat → Except Int Nat) (n : Nat) (c : Int) (n' : Nat) (c' : Int) : Prop :=
  (c ≠ 0 → n' = n ∧ c' = c) ∧ (c = 0 → (∀ q, x n = .ok q → n' = q ∧ c' = 0) ∧ ∀ e, x n = .error e → c' = e) ∧ n' ≤ 151 ∧ (c' = 0 → n' ≤ 150)
theorem Tr.id {n : Nat} {c : Int} (h : n ≤ 151) (h0 : c = 0 → n ≤ 150) : Tr (fun k => .ok k) n c n c := ⟨fun _ => ⟨rfl, rfl⟩, fun hc => ⟨fun q hq => by injection hq with hq; exact ⟨hq, hc⟩, fun e he => by cases he⟩, h, h0⟩
theorem Tr.seq {x y : Nat → Except Int Nat} {n n1 n2 : Nat} {c c1 c2 : Int} (h1 : Tr x n c n1 c1) (hx : Coded (x n)) (h2 : Tr y n1 c1 n2 c2) : Tr (fun k => nextK (x k) y) n c n2 c2 := by
  refine ⟨fun hc => ?_, fun hc => ?_, h2.2.2⟩
  · obtain ⟨rfl, rfl⟩ := h1.1 hc
    exact h2.1 hc
  · obtain ⟨ha, hb⟩ := h1.2.1 hc
    cases hxn : x n with
    | error e =>
      have := hb e hxn
      subst this
      obtain ⟨rfl, rfl⟩ := h2.1 (hx _ hxn)
      exact ⟨fun q hq => (by simp only [nextK, hxn] at hq; cases hq), fun e' he => (by simp only [nextK, hxn] at he; injection he)⟩
    | ok k1 =>
      obtain ⟨rfl, rfl⟩ := ha k1 hxn
      have := h2.2.1 rfl
      exact ⟨fun q hq => this.1 q (by simpa only [nextK, hxn] using hq), fun e he => this.2 e (by simpa only [nextK, hxn] using he)⟩

theorem look_chain (nv n : Nat) (deep : Int) (known fits1 fits2 named : Bool) (v : Int) (k2 f1 f2 : Bool) (h1 : k2 = !known) (h2 : (f1 || f2) = !(fits1 && fits2)) :
    varC nv v named (badC f2 (badC f1 (badC k2 (badC (decide (n + 1 > 150)) (badC (decide (deep > 12)) 0 4) 3) 2) 5) 5) = lookK nv n deep known (fits1 && fits2) named v := by
  unfold lookK
  by_cases d : deep > 12
  · have : varC nv v named 4 = 4 := by cases named <;> simp [varC, badC]
    simp [badC, d, this]
  · by_cases m : n + 1 > 150
    · have : varC nv v named 3 = 3 := by cases named <;> simp [varC, badC]
      simp [badC, d, m, this]
    · cases known with
      | false =>
        have : varC nv v named 2 = 2 := by cases named <;> simp [varC, badC]
        subst h1
        simp [badC, d, m, this]
      | true =>
        subst h1
        cases hf : (fits1 && fits2) with
        | false =>
          rw [hf] at h2
          have : varC nv v named 5 = 5 := by cases named <;> simp [varC, badC]
          cases f1 with
          | true => simp [badC, d, m, this]
          | false =>
            simp at h2
            subst h2
            simp [badC, d, m, this]
        | true =>
          rw [hf] at h2
          simp at h2
          obtain ⟨rfl, rfl⟩ := h2
          have : varC nv v named 0 = varK nv v named := by cases named <;> simp [varC, badC, varK]
          simp [badC, d, m, this]

theorem lookExpr_ret {j nv capv : Nat} {av : Option Addr} {b : Value} : ∀ (s : Nat) (t : ET), szE t ≤ s → szE t ≤ 1000 → ∀ {F : Nat → Prop} {w : World} {cs : List Value} (deep n : Nat) (c : Int), ExprV F w cs t → In F w → ¬ F j → Blk w j (lkC (.slice av nv capv) b n c) tLk → deep ≤ 14 → n ≤ 151 → (c = 0 → n ≤ 150) →
    Ret Try.prog 99 [.pointer (some ⟨j, 0, none⟩), .agg cs.toArray, .int .i64 (deep : Nat)] w fun r w' => r = .tuple #[] ∧ (∃ n' c', Blk w' j (lkC (.slice av nv capv) b n' c') tLk ∧ Tr (chkE nv t deep) n c n' c') ∧ Keep [j] w w' := by
  intro s
  induction s with
  | zero => intro t ht; have := szE_pos t; omega
  | succ s ih =>
    intro t ht ht3 F w cs deep n c h hF hFj hJ hdeep hn hn0
    obtain ⟨op, v, nn, l⟩ := t
    obtain ⟨lv, rfl, hl⟩ := h.inv
    obtain ⟨al, capl, rfl⟩ := hl.form
    simp only [szE] at ht ht3
    have hlen := szEs_len l
    refine ret_of 75 Try.func99 rfl rfl (by simp) ?_
    (repeat (first | refine pl_pure hT rfl rfl rfl ?_ | refine pl_nil ?_ | refine rn_seq ?_ | refine rn_plain ?_ | refine rn_block ?_ | refine rn_inBlock ?_ | refine rn_skip ?_ | refine rn_true rfl ?_ | refine rn_false rfl ?_ | refine rn_exit rfl ?_ | refine pl_not rfl rfl ?_))
    refine pl_op rfl rfl (opTo_boxN [.int .i64 op, .int .i64 v, .int .i64 nn, .slice al l.length capl] rfl rfl rfl ?_)
    intro w1 x hx hs1 hk1 hX1
    have hJ1 := hk1.blk hJ (by simp)
    have hJ1' := hJ1
    unfold lkC at hJ1'
    have hxj : x ≠ j := hX1.ne hJ1 (by decide)
    (repeat (first | refine pl_pure hT rfl rfl rfl ?_ | refine pl_nil ?_ | refine rn_seq ?_ | refine rn_plain ?_ | refine rn_block ?_ | refine rn_inBlock ?_ | refine rn_skip ?_ | refine rn_true rfl ?_ | refine rn_false rfl ?_ | refine rn_exit rfl ?_ | refine pl_not rfl rfl ?_))
    refine pl_val _ rfl rfl (val_load1 hT rfl rfl rfl (hJ1'.cell rfl)) ?_
    by_cases hc : c = 0
    · subst hc
      have hn150 := hn0 rfl
      refine pl_no rfl rfl rfl rfl rfl rfl (by first | (simp only [cmpP]; omega) | (simp [cmpP]; done) | (simp [cmpP]; omega)) ?_
      (repeat (first | refine pl_pure hT rfl rfl rfl ?_ | refine pl_nil ?_ | refine rn_seq ?_ | refine rn_plain ?_ | refine rn_block ?_ | refine rn_inBlock ?_ | refine rn_skip ?_ | refine rn_true rfl ?_ | refine rn_false rfl ?_ | refine rn_exit rfl ?_ | refine pl_not rfl rfl ?_))
      refine pl_op rfl rfl (opTo_call rfl rfl rfl rfl (by decide +kernel) ((head_ret hJ1 (deep : Nat) (by omega)).mono ?_))
      rintro v2 w2 ⟨rfl, hJ2, hk2⟩
      have hX2 := hk2.blk hX1 (by simpa using hxj)
      (repeat (first | refine pl_pure hT rfl rfl rfl ?_ | refine pl_nil ?_ | refine rn_seq ?_ | refine rn_plain ?_ | refine rn_block ?_ | refine rn_inBlock ?_ | refine rn_skip ?_ | refine rn_true rfl ?_ | refine rn_false rfl ?_ | refine rn_exit rfl ?_ | refine pl_not rfl rfl ?_))
      refine pl_val _ rfl rfl (val_load1 hT rfl rfl rfl (hX2.cell rfl)) ?_
      refine pl_op rfl rfl (opTo_call rfl rfl rfl rfl (by decide +kernel) ((partsOf_ret op w2).mono ?_))
      rintro v3 w3 ⟨rfl, rfl⟩
      (repeat (first | refine pl_pure hT rfl rfl rfl ?_ | refine pl_nil ?_ | refine rn_seq ?_ | refine rn_plain ?_ | refine rn_block ?_ | refine rn_inBlock ?_ | refine rn_skip ?_ | refine rn_true rfl ?_ | refine rn_false rfl ?_ | refine rn_exit rfl ?_ | refine pl_not rfl rfl ?_))
      refine pl_val (.bool (!knownE op)) rfl rfl (val_int .i64 _ _ _ rfl rfl rfl (by simp only [intOp]; congr 2; unfold knownE; rw [Bool.eq_iff_iff]; simp) w3) ?_
      refine pl_op rfl rfl (opTo_call rfl rfl rfl rfl (by decide +kernel) ((bad_ret hJ2 (!knownE op) 2).mono ?_))
      rintro v4 w4 ⟨rfl, hJ4, hk4⟩
      have hX4 := hk4.blk hX2 (by simpa using hxj)
      (repeat (first | refine pl_pure hT rfl rfl rfl ?_ | refine pl_nil ?_ | refine rn_seq ?_ | refine rn_plain ?_ | refine rn_block ?_ | refine rn_inBlock ?_ | refine rn_skip ?_ | refine rn_true rfl ?_ | refine rn_false rfl ?_ | refine rn_exit rfl ?_ | refine pl_not rfl rfl ?_))
      refine pl_val _ rfl rfl (val_load1 hT rfl rfl rfl (hX4.cell rfl)) ?_
      (repeat (first | refine pl_pure hT rfl rfl rfl ?_ | refine pl_nil ?_ | refine rn_seq ?_ | refine rn_plain ?_ | refine rn_block ?_ | refine rn_inBlock ?_ | refine rn_skip ?_ | refine rn_true rfl ?_ | refine rn_false rfl ?_ | refine rn_exit rfl ?_ | refine pl_not rfl rfl ?_))
      refine pl_val (.bool (!decide ((l.length : Int) = partsOf op))) rfl rfl (val_int .i64 _ _ _ rfl rfl rfl (by simp only [intOp]; congr 2; rw [Bool.eq_iff_iff]; simp; omega) w4) ?_
      refine pl_op rfl rfl (opTo_call rfl rfl rfl rfl (by decide +kernel) ((bad_ret hJ4 (!decide ((l.length : Int) = partsOf op)) 5).mono ?_))
      rintro v5 w5 ⟨rfl, hJ5, hk5⟩
      have hX5 := hk5.blk hX4 (by simpa using hxj)
      refine pl_nil ?_
      refine rn_seq ?_
      refine rn_with (fun σ' w' => ∃ c6, c6 = badC (!(op == 1 || nn == 0)) (badC (!decide ((l.length : Int) = partsOf op)) (badC (!knownE op) (badC (decide (n + 1 > 150)) (badC (decide ((deep : Int) > 12)) 0 4) 3) 2) 5) 5 ∧ Blk w' j (lkC (.slice av nv capv) b (n + 1) c6) tLk ∧ Blk w' x [.int .i64 op, .int .i64 v, .int .i64 nn, .slice al l.length capl] 117 ∧ Keep [j] w w' ∧ Sub [(0, .pointer (some ⟨j, 0, none⟩)), (2, .int .i64 (deep : Nat)), (4, .pointer (some ⟨x, 0, none⟩))] σ') ?_ ?_
      · rintro σ' w6 ⟨c6, hc6, hJ6, hX6, hk6, hsub⟩
        refine rn_sub hsub ?_
        refine rn_seq ?_
        refine rn_with (fun σ' w' => ∃ c7, c7 = varC nv v (namedE op) c6 ∧ Blk w' j (lkC (.slice av nv capv) b (n + 1) c7) tLk ∧ Blk w' x [.int .i64 op, .int .i64 v, .int .i64 nn, .slice al l.length capl] 117 ∧ Keep [j] w w' ∧ Sub [(0, .pointer (some ⟨j, 0, none⟩)), (2, .int .i64 (deep : Nat)), (4, .pointer (some ⟨x, 0, none⟩))] σ') ?_ ?_
        · rintro σ' w7 ⟨c7, hc7, hJ7, hX7, hk7, hsub⟩
          refine rn_sub hsub ?_
          have hck : c7 = lookK nv n (deep : Nat) (knownE op) (fitsE op nn l.length) (namedE op) v := by
            rw [hc7, hc6]
            exact look_chain nv n (deep : Nat) (knownE op) (decide ((l.length : Int) = partsOf op)) (op == 1 || nn == 0) (namedE op) v _ _ _ rfl (by cases decide ((l.length : Int) = partsOf op) <;> cases (op == 1 || nn == 0) <;> rfl)
          clear hc6 hc7 hJ1 hJ1' hJ2 hJ4 hJ5 hX1 hX2 hX4 hX5 hk2 hk4 hk5
          (repeat (first | refine pl_pure hT rfl rfl rfl ?_ | refine pl_nil ?_ | refine rn_seq ?_ | refine rn_plain ?_ | refine rn_block ?_ | refine rn_inBlock ?_ | refine rn_skip ?_ | refine rn_true rfl ?_ | refine rn_false rfl ?_ | refine rn_exit rfl ?_ | refine pl_not rfl rfl ?_))
          refine rn_ind (fun m σ w' => ∃ (i ni : Nat) (ci : Int), i ≤ l.length ∧ m = l.length - i ∧ σ = [(0, .pointer (some ⟨j, 0, none⟩)), (2, .int .i64 (deep : Nat)), (4, .pointer (some ⟨x, 0, none⟩)), (7, .int .i64 (i : Nat))] ∧ Blk w' j (lkC (.slice av nv capv) b ni ci) tLk ∧ Blk w' x [.int .i64 op, .int .i64 v, .int .i64 nn, .slice al l.length capl] 117 ∧ Keep [j] w w' ∧
            ni ≤ 151 ∧ ((ci = 0 ∧ c7 = 0 ∧ ni ≤ 150 ∧ chkEs nv (l.take i) (deep + 1) (n + 1) = .ok ni) ∨ (ci ≠ 0 ∧ chkE nv (.mk op v nn l) deep n = .error ci))) l.length _ ?_ ⟨0, n + 1, c7, by omega, by omega, rfl, hJ7, hX7, hk7, by omega, ?_⟩ ?_
          · exact ⟨rfl, rfl, rfl, rfl, trivial⟩
          · by_cases hz : c7 = 0
            · have := look_room (hck.symm.trans hz)
              exact .inl ⟨hz, hz, by omega, by simp [chkEs]⟩
            · refine .inr ⟨hz, ?_⟩
              rw [chkE_look, ← hck, if_pos hz]
          clear hJ7 hX7 hk7
          rintro m σ w8 ih2 ⟨i, ni, ci, hi, rfl, rfl, hJ8, hX8, hk8, hni, hor⟩
          have hJ8' := hJ8
          unfold lkC at hJ8'
          (repeat (first | refine pl_pure hT rfl rfl rfl ?_ | refine pl_nil ?_ | refine rn_seq ?_ | refine rn_plain ?_ | refine rn_block ?_ | refine rn_inBlock ?_ | refine rn_skip ?_ | refine rn_true rfl ?_ | refine rn_false rfl ?_ | refine rn_exit rfl ?_ | refine pl_not rfl rfl ?_))
          refine pl_val _ rfl rfl (val_load1 hT rfl rfl rfl (hX8.cell rfl)) ?_
          (repeat (first | refine pl_pure hT rfl rfl rfl ?_ | refine pl_nil ?_ | refine rn_seq ?_ | refine rn_plain ?_ | refine rn_block ?_ | refine rn_inBlock ?_ | refine rn_skip ?_ | refine rn_true rfl ?_ | refine rn_false rfl ?_ | refine rn_exit rfl ?_ | refine pl_not rfl rfl ?_))
          by_cases hlt : i < l.length
          · rcases hor with ⟨hci, hc70, hni150, hch⟩ | ⟨hci, hch⟩
            · subst hci
              have hroom := look_room (hck.symm.trans hc70)
              have hget : l[i]? = some l[i] := List.getElem?_eq_getElem hlt
              have hsz := szEs_at hget
              have hat := chkEs_at hget hch
              obtain ⟨bb, q, _, cj, hvv, _, hra, hcj⟩ := (hl.keep hk8 (stays_but hF hFj)).at hget
              cases hvv
              (repeat (first | refine pl_pure hT rfl rfl rfl ?_ | refine pl_nil ?_ | refine rn_seq ?_ | refine rn_plain ?_ | refine rn_block ?_ | refine rn_inBlock ?_ | refine rn_skip ?_ | refine rn_true rfl ?_ | refine rn_false rfl ?_ | refine rn_exit rfl ?_ | refine pl_not rfl rfl ?_ | refine pl_val _ rfl rfl (val_load1 hT rfl rfl rfl (Blk.cell (by assumption) (by rfl))) ?_ | refine pl_yes rfl rfl rfl rfl rfl (by first | (simp only [cmpP]; omega) | (simp [cmpP]; done) | (simp [cmpP]; omega)) ?_ | refine pl_no rfl rfl rfl rfl rfl rfl (by first | (simp only [cmpP]; omega) | (simp [cmpP]; done) | (simp [cmpP]; omega)) ?_))
              refine pl_val _ rfl rfl (val_index i hT rfl rfl rfl rfl rfl hlt w8) ?_
              refine pl_val (.agg cj.toArray) rfl rfl (val_load cj hT rfl rfl (by rw [hcj.length]; rfl) hra) ?_
              (repeat (first | refine pl_pure hT rfl rfl rfl ?_ | refine pl_nil ?_ | refine rn_seq ?_ | refine rn_plain ?_ | refine rn_block ?_ | refine rn_inBlock ?_ | refine rn_skip ?_ | refine rn_true rfl ?_ | refine rn_false rfl ?_ | refine rn_exit rfl ?_ | refine pl_not rfl rfl ?_))
              refine pl_num (((deep + 1 : Nat) : Int)) rfl rfl rfl rfl rfl (by simp only [ariP]; omega) ?_
              refine pl_op rfl rfl (opTo_call rfl rfl rfl rfl (by decide +kernel) ((ih l[i] (by omega) (by omega) (deep + 1) ni 0 hcj (hF.keep hk8) hFj hJ8 (by omega) hni (fun _ => hni150)).mono ?_))
              rintro v9 w9 ⟨rfl, ⟨n9, c9, hJ9, htr9⟩, hk9⟩
              have hX9 := hk9.blk hX8 (by simpa using hxj)
              (repeat (first | refine pl_pure hT rfl rfl rfl ?_ | refine pl_nil ?_ | refine rn_seq ?_ | refine rn_plain ?_ | refine rn_block ?_ | refine rn_inBlock ?_ | refine rn_skip ?_ | refine rn_true rfl ?_ | refine rn_false rfl ?_ | refine rn_exit rfl ?_ | refine pl_not rfl rfl ?_))
              refine pl_num (((i + 1 : Nat) : Int)) rfl rfl rfl rfl rfl (by simp only [ariP]; omega) ?_
              (repeat (first | refine pl_pure hT rfl rfl rfl ?_ | refine pl_nil ?_ | refine rn_seq ?_ | refine rn_plain ?_ | refine rn_block ?_ | refine rn_inBlock ?_ | refine rn_skip ?_ | refine rn_true rfl ?_ | refine rn_false rfl ?_ | refine rn_exit rfl ?_ | refine pl_not rfl rfl ?_))
              refine rn_sub ?_ (ih2 (l.length - (i + 1)) [(0, .pointer (some ⟨j, 0, none⟩)), (2, .int .i64 (deep : Nat)), (4, .pointer (some ⟨x, 0, none⟩)), (7, .int .i64 ((i + 1 : Nat) : Int))] w9 (by omega)
                ⟨i + 1, n9, c9, by omega, rfl, rfl, hJ9, hX9, hk8.tr hk9, htr9.2.2.1, ?_⟩)
              · exact ⟨rfl, rfl, rfl, rfl, trivial⟩
              · have ht := htr9.2.1 rfl
                cases hx9 : chkE nv l[i] (deep + 1) ni with
                | ok q =>
                  obtain ⟨rfl, rfl⟩ := ht.1 q hx9
                  exact .inl ⟨rfl, hc70, htr9.2.2.2 rfl, by rw [hat.1, hx9]⟩
                | error e =>
                  have := ht.2 e hx9
                  subst this
                  refine .inr ⟨codedE nv _ _ _ _ hx9, ?_⟩
                  rw [chkE_look, ← hck, if_neg (by simp [hc70])]
                  exact hat.2 _ hx9
            · (repeat (first | refine pl_pure hT rfl rfl rfl ?_ | refine pl_nil ?_ | refine rn_seq ?_ | refine rn_plain ?_ | refine rn_block ?_ | refine rn_inBlock ?_ | refine rn_skip ?_ | refine rn_true rfl ?_ | refine rn_false rfl ?_ | refine rn_exit rfl ?_ | refine pl_not rfl rfl ?_ | refine pl_val _ rfl rfl (val_load1 hT rfl rfl rfl (Blk.cell (by assumption) (by rfl))) ?_ | refine pl_yes rfl rfl rfl rfl rfl (by first | (simp only [cmpP]; omega) | (simp [cmpP]; done) | (simp [cmpP]; omega)) ?_ | refine pl_no rfl rfl rfl rfl rfl rfl (by first | (simp only [cmpP]; omega) | (simp [cmpP]; done) | (simp [cmpP]; omega)) ?_))
              refine rn_end Try.func99 (.inr (.inl ⟨rfl, rfl⟩)) ⟨rfl, ⟨ni, ci, hJ8, ?_⟩, hk8⟩
              exact ⟨fun h => absurd rfl h, fun _ => ⟨fun q hq => (by rw [hch] at hq; cases hq), fun e he => (by rw [hch] at he; injection he)⟩, hni, fun h => absurd h hci⟩
          · refine pl_no rfl rfl rfl rfl rfl rfl (by first | (simp only [cmpP]; omega) | (simp [cmpP]; done) | (simp [cmpP]; omega)) ?_
            (repeat (first | refine pl_pure hT rfl rfl rfl ?_ | refine pl_nil ?_ | refine rn_seq ?_ | refine rn_plain ?_ | refine rn_block ?_ | refine rn_inBlock ?_ | refine rn_skip ?_ | refine rn_true rfl ?_ | refine rn_false rfl ?_ | refine rn_exit rfl ?_ | refine pl_not rfl rfl ?_))
            refine rn_end Try.func99 (.inr (.inl ⟨rfl, rfl⟩)) ⟨rfl, ⟨ni, ci, hJ8, ?_⟩, hk8⟩
            rcases hor with ⟨hci, hc70, hni150, hch⟩ | ⟨hci, hch⟩
            · rw [List.take_of_length_le (by omega)] at hch
              have hE : chkE nv (.mk op v nn l) deep n = .ok ni := by rw [chkE_look, ← hck, if_neg (by simp [hc70])]; exact hch
              exact ⟨fun h => absurd rfl h, fun _ => ⟨fun q hq => (by rw [hE] at hq; injection hq with hq; exact ⟨hq, hci⟩), fun e he => (by rw [hE] at he; cases he)⟩, hni, fun _ => hni150⟩
            · exact ⟨fun h => absurd rfl h, fun _ => ⟨fun q hq => (by rw [hch] at hq; cases hq), fun e he => (by rw [hch] at he; injection he)⟩, hni, fun h => absurd h hci⟩
        · intro fin7
          by_cases h2 : op = 2
          · (repeat (first | refine pl_pure hT rfl rfl rfl ?_ | refine pl_nil ?_ | refine rn_seq ?_ | refine rn_plain ?_ | refine rn_block ?_ | refine rn_inBlock ?_ | refine rn_skip ?_ | refine rn_true rfl ?_ | refine rn_false rfl ?_ | refine rn_exit rfl ?_ | refine pl_not rfl rfl ?_ | refine pl_val _ rfl rfl (val_load1 hT rfl rfl rfl (Blk.cell (by assumption) (by rfl))) ?_ | refine pl_yes rfl rfl rfl rfl rfl (by first | (simp only [cmpP]; omega) | (simp [cmpP]; done) | (simp [cmpP]; omega)) ?_ | refine pl_no rfl rfl rfl rfl rfl rfl (by first | (simp only [cmpP]; omega) | (simp [cmpP]; done) | (simp [cmpP]; omega)) ?_))
            refine pl_op rfl rfl (opTo_call rfl rfl rfl rfl (by decide +kernel) ((variable_ret hJ6 v true).mono ?_))
            rintro v7 w7 ⟨rfl, hJ7, hk7⟩
            refine pl_nil ?_
            exact fin7 _ _ ⟨_, by simp [namedE, h2], hJ7, hk7.blk hX6 (by simpa using hxj), hk6.tr hk7, rfl, rfl, rfl, trivial⟩
          · (repeat (first | refine pl_pure hT rfl rfl rfl ?_ | refine pl_nil ?_ | refine rn_seq ?_ | refine rn_plain ?_ | refine rn_block ?_ | refine rn_inBlock ?_ | refine rn_skip ?_ | refine rn_true rfl ?_ | refine rn_false rfl ?_ | refine rn_exit rfl ?_ | refine pl_not rfl rfl ?_ | refine pl_val _ rfl rfl (val_load1 hT rfl rfl rfl (Blk.cell (by assumption) (by rfl))) ?_ | refine pl_yes rfl rfl rfl rfl rfl (by first | (simp only [cmpP]; omega) | (simp [cmpP]; done) | (simp [cmpP]; omega)) ?_ | refine pl_no rfl rfl rfl rfl rfl rfl (by first | (simp only [cmpP]; omega) | (simp [cmpP]; done) | (simp [cmpP]; omega)) ?_))
            refine pl_val (.bool (namedE op)) rfl rfl (val_int .i64 _ _ _ rfl rfl rfl (by simp [intOp, namedE, h2]) w6) ?_
            (repeat (first | refine pl_pure hT rfl rfl rfl ?_ | refine pl_nil ?_ | refine rn_seq ?_ | refine rn_plain ?_ | refine rn_block ?_ | refine rn_inBlock ?_ | refine rn_skip ?_ | refine rn_true rfl ?_ | refine rn_false rfl ?_ | refine rn_exit rfl ?_ | refine pl_not rfl rfl ?_))
            refine pl_op rfl rfl (opTo_call rfl rfl rfl rfl (by decide +kernel) ((variable_ret hJ6 v (namedE op)).mono ?_))
            rintro v7 w7 ⟨rfl, hJ7, hk7⟩
            refine pl_nil ?_
            exact fin7 _ _ ⟨_, rfl, hJ7, hk7.blk hX6 (by simpa using hxj), hk6.tr hk7, rfl, rfl, rfl, trivial⟩
      · intro fin6
        have hk5w : Keep [j] w w5 := (((Keep.of0 hk1).tr hk2).tr hk4).tr hk5
        by_cases h1 : op = 1
        · (repeat (first | refine pl_pure hT rfl rfl rfl ?_ | refine pl_nil ?_ | refine rn_seq ?_ | refine rn_plain ?_ | refine rn_block ?_ | refine rn_inBlock ?_ | refine rn_skip ?_ | refine rn_true rfl ?_ | refine rn_false rfl ?_ | refine rn_exit rfl ?_ | refine pl_not rfl rfl ?_ | refine pl_val _ rfl rfl (val_load1 hT rfl rfl rfl (Blk.cell (by assumption) (by rfl))) ?_ | refine pl_yes rfl rfl rfl rfl rfl (by first | (simp only [cmpP]; omega) | (simp [cmpP]; done) | (simp [cmpP]; omega)) ?_ | refine pl_no rfl rfl rfl rfl rfl rfl (by first | (simp only [cmpP]; omega) | (simp [cmpP]; done) | (simp [cmpP]; omega)) ?_))
          refine pl_op rfl rfl (opTo_call rfl rfl rfl rfl (by decide +kernel) ((bad_ret hJ5 false 5).mono ?_))
          rintro v6 w6 ⟨rfl, hJ6, hk6⟩
          refine pl_nil ?_
          exact fin6 _ _ ⟨_, by simp [h1], hJ6, hk6.blk hX5 (by simpa using hxj), hk5w.tr hk6, rfl, rfl, rfl, trivial⟩
        · (repeat (first | refine pl_pure hT rfl rfl rfl ?_ | refine pl_nil ?_ | refine rn_seq ?_ | refine rn_plain ?_ | refine rn_block ?_ | refine rn_inBlock ?_ | refine rn_skip ?_ | refine rn_true rfl ?_ | refine rn_false rfl ?_ | refine rn_exit rfl ?_ | refine pl_not rfl rfl ?_ | refine pl_val _ rfl rfl (val_load1 hT rfl rfl rfl (Blk.cell (by assumption) (by rfl))) ?_ | refine pl_yes rfl rfl rfl rfl rfl (by first | (simp only [cmpP]; omega) | (simp [cmpP]; done) | (simp [cmpP]; omega)) ?_ | refine pl_no rfl rfl rfl rfl rfl rfl (by first | (simp only [cmpP]; omega) | (simp [cmpP]; done) | (simp [cmpP]; omega)) ?_))
          refine pl_val (.bool (!(op == 1 || nn == 0))) rfl rfl (val_int .i64 _ _ _ rfl rfl rfl (by simp only [intOp]; congr 2; rw [Bool.eq_iff_iff]; simp [h1]) w5) ?_
          (repeat (first | refine pl_pure hT rfl rfl rfl ?_ | refine pl_nil ?_ | refine rn_seq ?_ | refine rn_plain ?_ | refine rn_block ?_ | refine rn_inBlock ?_ | refine rn_skip ?_ | refine rn_true rfl ?_ | refine rn_false rfl ?_ | refine rn_exit rfl ?_ | refine pl_not rfl rfl ?_))
          refine pl_op rfl rfl (opTo_call rfl rfl rfl rfl (by decide +kernel) ((bad_ret hJ5 (!(op == 1 || nn == 0)) 5).mono ?_))
          rintro v6 w6 ⟨rfl, hJ6, hk6⟩
          refine pl_nil ?_
          exact fin6 _ _ ⟨_, rfl, hJ6, hk6.blk hX5 (by simpa using hxj), hk5w.tr hk6, rfl, rfl, rfl, trivial⟩
    · refine pl_yes rfl rfl rfl rfl rfl (by first | (simp only [cmpP]; omega) | (simp [cmpP]; done) | (simp [cmpP]; omega)) ?_
      (repeat (first | refine pl_pure hT rfl rfl rfl ?_ | refine pl_nil ?_ | refine rn_seq ?_ | refine rn_plain ?_ | refine rn_block ?_ | refine rn_inBlock ?_ | refine rn_skip ?_ | refine rn_true rfl ?_ | refine rn_false rfl ?_ | refine rn_exit rfl ?_ | refine pl_not rfl rfl ?_))
      refine rn_ret Try.func99 (.inr (.inl ⟨rfl, rfl⟩)) ⟨rfl, ⟨n, c, hJ1, ?_⟩, Keep.of0 hk1⟩
      exact ⟨fun _ => ⟨rfl, rfl⟩, fun h => absurd h hc, hn, hn0⟩
end E
end Go.Proofs.Ytpbdjpoohpocfab
