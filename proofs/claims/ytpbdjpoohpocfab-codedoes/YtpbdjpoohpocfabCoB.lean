/- Contracts of package code's smallest functions: what a kind has, what a name is. -/
import Derived.Test.YtpbdjpoohpocfabCoA
namespace Go.Proofs.Ytpbdjpoohpocfab
set_option maxRecDepth 20000
set_option maxHeartbeats 4000000
namespace E
open Go.Proofs

theorem parts_ret (op : Int) (w : World) : Ret Try.prog 37 [.int .i64 op] w fun v w' => v = .int .i64 (partsOf op) ∧ w' = w := by
  refine ret_of 20 Try.func37 rfl rfl (by simp) ?_
  have h : op < 1 ∨ op > 8 ∨ op = 1 ∨ op = 2 ∨ op = 3 ∨ (4 ≤ op ∧ op ≤ 8) := by omega
  rcases h with h | h | h | h | h | h <;> ((repeat (first | refine pl_pure hT rfl rfl rfl ?_ | refine pl_nil ?_ | refine rn_seq ?_ | refine rn_plain ?_ | refine rn_block ?_ | refine rn_inBlock ?_ | refine rn_skip ?_ | refine rn_true rfl ?_ | refine rn_false rfl ?_ | refine rn_exit rfl ?_ | refine pl_not rfl rfl ?_ | refine pl_val _ rfl rfl (val_load1 hT rfl rfl rfl (Blk.cell (by assumption) (by rfl))) ?_ | refine pl_yes rfl rfl rfl rfl rfl (by first | (simp only [cmpP]; omega) | (simp [cmpP]; done) | (simp [cmpP]; omega)) ?_ | refine pl_no rfl rfl rfl rfl rfl rfl (by first | (simp only [cmpP]; omega) | (simp [cmpP]; done) | (simp [cmpP]; omega)) ?_)); refine rn_ret Try.func37 (.inl ⟨_, rfl, rfl⟩) ⟨?_, rfl⟩; congr 1; (unfold partsOf; repeat' split) <;> omega)

def hasV (op : Int) : Value := .tuple #[.bool (needE op), .bool (needF op), .bool (needV op), .bool (needB op), .bool (needO op)]

theorem has_ret (op : Int) (w : World) : Ret Try.prog 33 [.int .i64 op] w fun v w' => v = hasV op ∧ w' = w := by
  refine ret_of 20 Try.func33 rfl rfl (by simp) ?_
  have h : op = 1 ∨ op = 2 ∨ op = 3 ∨ op = 4 ∨ op = 5 ∨ op = 6 ∨ (op ≠ 1 ∧ op ≠ 2 ∧ op ≠ 3 ∧ op ≠ 4 ∧ op ≠ 5 ∧ op ≠ 6) := by omega
  rcases h with h | h | h | h | h | h | h
  · subst h; (repeat (first | refine pl_pure hT rfl rfl rfl ?_ | refine pl_nil ?_ | refine rn_seq ?_ | refine rn_plain ?_ | refine rn_block ?_ | refine rn_inBlock ?_ | refine rn_skip ?_ | refine rn_true rfl ?_ | refine rn_false rfl ?_ | refine rn_exit rfl ?_ | refine pl_not rfl rfl ?_ | refine pl_val _ rfl rfl (val_load1 hT rfl rfl rfl (Blk.cell (by assumption) (by rfl))) ?_ | refine pl_yes rfl rfl rfl rfl rfl (by first | (simp only [cmpP]; omega) | (simp [cmpP]; done) | (simp [cmpP]; omega)) ?_ | refine pl_no rfl rfl rfl rfl rfl rfl (by first | (simp only [cmpP]; omega) | (simp [cmpP]; done) | (simp [cmpP]; omega)) ?_)); exact rn_ret5 Try.func33 rfl rfl rfl rfl rfl rfl ⟨rfl, rfl⟩
  · subst h; (repeat (first | refine pl_pure hT rfl rfl rfl ?_ | refine pl_nil ?_ | refine rn_seq ?_ | refine rn_plain ?_ | refine rn_block ?_ | refine rn_inBlock ?_ | refine rn_skip ?_ | refine rn_true rfl ?_ | refine rn_false rfl ?_ | refine rn_exit rfl ?_ | refine pl_not rfl rfl ?_ | refine pl_val _ rfl rfl (val_load1 hT rfl rfl rfl (Blk.cell (by assumption) (by rfl))) ?_ | refine pl_yes rfl rfl rfl rfl rfl (by first | (simp only [cmpP]; omega) | (simp [cmpP]; done) | (simp [cmpP]; omega)) ?_ | refine pl_no rfl rfl rfl rfl rfl rfl (by first | (simp only [cmpP]; omega) | (simp [cmpP]; done) | (simp [cmpP]; omega)) ?_)); exact rn_ret5 Try.func33 rfl rfl rfl rfl rfl rfl ⟨rfl, rfl⟩
  · subst h; (repeat (first | refine pl_pure hT rfl rfl rfl ?_ | refine pl_nil ?_ | refine rn_seq ?_ | refine rn_plain ?_ | refine rn_block ?_ | refine rn_inBlock ?_ | refine rn_skip ?_ | refine rn_true rfl ?_ | refine rn_false rfl ?_ | refine rn_exit rfl ?_ | refine pl_not rfl rfl ?_ | refine pl_val _ rfl rfl (val_load1 hT rfl rfl rfl (Blk.cell (by assumption) (by rfl))) ?_ | refine pl_yes rfl rfl rfl rfl rfl (by first | (simp only [cmpP]; omega) | (simp [cmpP]; done) | (simp [cmpP]; omega)) ?_ | refine pl_no rfl rfl rfl rfl rfl rfl (by first | (simp only [cmpP]; omega) | (simp [cmpP]; done) | (simp [cmpP]; omega)) ?_)); exact rn_ret5 Try.func33 rfl rfl rfl rfl rfl rfl ⟨rfl, rfl⟩
  · subst h; (repeat (first | refine pl_pure hT rfl rfl rfl ?_ | refine pl_nil ?_ | refine rn_seq ?_ | refine rn_plain ?_ | refine rn_block ?_ | refine rn_inBlock ?_ | refine rn_skip ?_ | refine rn_true rfl ?_ | refine rn_false rfl ?_ | refine rn_exit rfl ?_ | refine pl_not rfl rfl ?_ | refine pl_val _ rfl rfl (val_load1 hT rfl rfl rfl (Blk.cell (by assumption) (by rfl))) ?_ | refine pl_yes rfl rfl rfl rfl rfl (by first | (simp only [cmpP]; omega) | (simp [cmpP]; done) | (simp [cmpP]; omega)) ?_ | refine pl_no rfl rfl rfl rfl rfl rfl (by first | (simp only [cmpP]; omega) | (simp [cmpP]; done) | (simp [cmpP]; omega)) ?_)); exact rn_ret5 Try.func33 rfl rfl rfl rfl rfl rfl ⟨rfl, rfl⟩
  · subst h; (repeat (first | refine pl_pure hT rfl rfl rfl ?_ | refine pl_nil ?_ | refine rn_seq ?_ | refine rn_plain ?_ | refine rn_block ?_ | refine rn_inBlock ?_ | refine rn_skip ?_ | refine rn_true rfl ?_ | refine rn_false rfl ?_ | refine rn_exit rfl ?_ | refine pl_not rfl rfl ?_ | refine pl_val _ rfl rfl (val_load1 hT rfl rfl rfl (Blk.cell (by assumption) (by rfl))) ?_ | refine pl_yes rfl rfl rfl rfl rfl (by first | (simp only [cmpP]; omega) | (simp [cmpP]; done) | (simp [cmpP]; omega)) ?_ | refine pl_no rfl rfl rfl rfl rfl rfl (by first | (simp only [cmpP]; omega) | (simp [cmpP]; done) | (simp [cmpP]; omega)) ?_)); exact rn_ret5 Try.func33 rfl rfl rfl rfl rfl rfl ⟨rfl, rfl⟩
  · subst h; (repeat (first | refine pl_pure hT rfl rfl rfl ?_ | refine pl_nil ?_ | refine rn_seq ?_ | refine rn_plain ?_ | refine rn_block ?_ | refine rn_inBlock ?_ | refine rn_skip ?_ | refine rn_true rfl ?_ | refine rn_false rfl ?_ | refine rn_exit rfl ?_ | refine pl_not rfl rfl ?_ | refine pl_val _ rfl rfl (val_load1 hT rfl rfl rfl (Blk.cell (by assumption) (by rfl))) ?_ | refine pl_yes rfl rfl rfl rfl rfl (by first | (simp only [cmpP]; omega) | (simp [cmpP]; done) | (simp [cmpP]; omega)) ?_ | refine pl_no rfl rfl rfl rfl rfl rfl (by first | (simp only [cmpP]; omega) | (simp [cmpP]; done) | (simp [cmpP]; omega)) ?_)); exact rn_ret5 Try.func33 rfl rfl rfl rfl rfl rfl ⟨rfl, rfl⟩
  · (repeat (first | refine pl_pure hT rfl rfl rfl ?_ | refine pl_nil ?_ | refine rn_seq ?_ | refine rn_plain ?_ | refine rn_block ?_ | refine rn_inBlock ?_ | refine rn_skip ?_ | refine rn_true rfl ?_ | refine rn_false rfl ?_ | refine rn_exit rfl ?_ | refine pl_not rfl rfl ?_ | refine pl_val _ rfl rfl (val_load1 hT rfl rfl rfl (Blk.cell (by assumption) (by rfl))) ?_ | refine pl_yes rfl rfl rfl rfl rfl (by first | (simp only [cmpP]; omega) | (simp [cmpP]; done) | (simp [cmpP]; omega)) ?_ | refine pl_no rfl rfl rfl rfl rfl rfl (by first | (simp only [cmpP]; omega) | (simp [cmpP]; done) | (simp [cmpP]; omega)) ?_))
    refine rn_ret5 Try.func33 rfl rfl rfl rfl rfl rfl ⟨?_, rfl⟩
    simp [hasV, needE, needF, needV, needB, needO, h]

theorem str_at {s : ByteArray} {j : Nat} (h : j < s.size) : s[j]? = some (s.data.toList[j]'(by simpa using h)) := by
  rw [getElem?_pos s j h]
  rfl

theorem all_take_succ {l : List UInt8} {i : Nat} (h : i < l.length) : (l.take (i + 1)).all letter = ((l.take i).all letter && letter l[i]) := by
  rw [List.take_succ_eq_append_getElem h, List.all_append]
  simp only [List.all_cons, List.all_nil, Bool.and_true]
theorem all_take_false {l : List UInt8} {i : Nat} (h : i < l.length) (hl : letter l[i] = false) : l.all letter = false := by
  rw [List.all_eq_false]
  exact ⟨l[i], List.getElem_mem h, by simp [hl]⟩

theorem name_ret (s : ByteArray) (w : World) : Ret Try.prog 39 [.string s] w fun v w' => v = .bool (nameOk s) ∧ w' = w := by
  refine ret_of 28 Try.func39 rfl rfl (by simp) ?_
  (repeat (first | refine pl_pure hT rfl rfl rfl ?_ | refine pl_nil ?_ | refine rn_seq ?_ | refine rn_plain ?_ | refine rn_block ?_ | refine rn_inBlock ?_ | refine rn_skip ?_ | refine rn_true rfl ?_ | refine rn_false rfl ?_ | refine rn_exit rfl ?_ | refine pl_not rfl rfl ?_))
  refine pl_val _ rfl rfl (val_strLen s (by decide +kernel) rfl rfl w) ?_
  by_cases h1 : s.size < 1
  · (repeat (first | refine pl_pure hT rfl rfl rfl ?_ | refine pl_nil ?_ | refine rn_seq ?_ | refine rn_plain ?_ | refine rn_block ?_ | refine rn_inBlock ?_ | refine rn_skip ?_ | refine rn_true rfl ?_ | refine rn_false rfl ?_ | refine rn_exit rfl ?_ | refine pl_not rfl rfl ?_ | refine pl_val _ rfl rfl (val_load1 hT rfl rfl rfl (Blk.cell (by assumption) (by rfl))) ?_ | refine pl_yes rfl rfl rfl rfl rfl (by first | (simp only [cmpP]; omega) | (simp [cmpP]; done) | (simp [cmpP]; omega)) ?_ | refine pl_no rfl rfl rfl rfl rfl rfl (by first | (simp only [cmpP]; omega) | (simp [cmpP]; done) | (simp [cmpP]; omega)) ?_))
    refine rn_ret Try.func39 (.inl ⟨_, rfl, rfl⟩) ⟨?_, rfl⟩
    have : ¬ 1 ≤ s.size := by omega
    simp [nameOk, this]
  · (repeat (first | refine pl_pure hT rfl rfl rfl ?_ | refine pl_nil ?_ | refine rn_seq ?_ | refine rn_plain ?_ | refine rn_block ?_ | refine rn_inBlock ?_ | refine rn_skip ?_ | refine rn_true rfl ?_ | refine rn_false rfl ?_ | refine rn_exit rfl ?_ | refine pl_not rfl rfl ?_ | refine pl_val _ rfl rfl (val_load1 hT rfl rfl rfl (Blk.cell (by assumption) (by rfl))) ?_ | refine pl_yes rfl rfl rfl rfl rfl (by first | (simp only [cmpP]; omega) | (simp [cmpP]; done) | (simp [cmpP]; omega)) ?_ | refine pl_no rfl rfl rfl rfl rfl rfl (by first | (simp only [cmpP]; omega) | (simp [cmpP]; done) | (simp [cmpP]; omega)) ?_))
    refine pl_val _ rfl rfl (val_strLen s (by decide +kernel) rfl rfl w) ?_
    by_cases h2 : s.size > 8
    · (repeat (first | refine pl_pure hT rfl rfl rfl ?_ | refine pl_nil ?_ | refine rn_seq ?_ | refine rn_plain ?_ | refine rn_block ?_ | refine rn_inBlock ?_ | refine rn_skip ?_ | refine rn_true rfl ?_ | refine rn_false rfl ?_ | refine rn_exit rfl ?_ | refine pl_not rfl rfl ?_ | refine pl_val _ rfl rfl (val_load1 hT rfl rfl rfl (Blk.cell (by assumption) (by rfl))) ?_ | refine pl_yes rfl rfl rfl rfl rfl (by first | (simp only [cmpP]; omega) | (simp [cmpP]; done) | (simp [cmpP]; omega)) ?_ | refine pl_no rfl rfl rfl rfl rfl rfl (by first | (simp only [cmpP]; omega) | (simp [cmpP]; done) | (simp [cmpP]; omega)) ?_))
      refine rn_ret Try.func39 (.inl ⟨_, rfl, rfl⟩) ⟨?_, rfl⟩
      have : ¬ s.size ≤ 8 := by omega
      simp [nameOk, this]
    · (repeat (first | refine pl_pure hT rfl rfl rfl ?_ | refine pl_nil ?_ | refine rn_seq ?_ | refine rn_plain ?_ | refine rn_block ?_ | refine rn_inBlock ?_ | refine rn_skip ?_ | refine rn_true rfl ?_ | refine rn_false rfl ?_ | refine rn_exit rfl ?_ | refine pl_not rfl rfl ?_ | refine pl_val _ rfl rfl (val_load1 hT rfl rfl rfl (Blk.cell (by assumption) (by rfl))) ?_ | refine pl_yes rfl rfl rfl rfl rfl (by first | (simp only [cmpP]; omega) | (simp [cmpP]; done) | (simp [cmpP]; omega)) ?_ | refine pl_no rfl rfl rfl rfl rfl rfl (by first | (simp only [cmpP]; omega) | (simp [cmpP]; done) | (simp [cmpP]; omega)) ?_))
      refine pl_val _ rfl rfl (val_strLen s (by decide +kernel) rfl rfl w) ?_
      (repeat (first | refine pl_pure hT rfl rfl rfl ?_ | refine pl_nil ?_ | refine rn_seq ?_ | refine rn_plain ?_ | refine rn_block ?_ | refine rn_inBlock ?_ | refine rn_skip ?_ | refine rn_true rfl ?_ | refine rn_false rfl ?_ | refine rn_exit rfl ?_ | refine pl_not rfl rfl ?_))
      have hsz : s.data.toList.length = s.size := by simp
      refine rn_ind (fun m σ w' => ∃ i : Nat, i ≤ s.size ∧ m = s.size - i ∧ σ = [(0, .string s), (13, .int .i64 (s.size : Nat)), (14, .int .i64 (i : Nat))] ∧ (s.data.toList.take i).all letter = true ∧ w' = w) s.size _ ?_ ⟨0, by omega, by omega, rfl, by simp, rfl⟩ ?_
      · exact ⟨rfl, rfl, rfl, trivial⟩
      rintro m σ w2 ih ⟨i, hi, rfl, rfl, hall, rfl⟩
      by_cases hlt : i < s.size
      · (repeat (first | refine pl_pure hT rfl rfl rfl ?_ | refine pl_nil ?_ | refine rn_seq ?_ | refine rn_plain ?_ | refine rn_block ?_ | refine rn_inBlock ?_ | refine rn_skip ?_ | refine rn_true rfl ?_ | refine rn_false rfl ?_ | refine rn_exit rfl ?_ | refine pl_not rfl rfl ?_ | refine pl_val _ rfl rfl (val_load1 hT rfl rfl rfl (Blk.cell (by assumption) (by rfl))) ?_ | refine pl_yes rfl rfl rfl rfl rfl (by first | (simp only [cmpP]; omega) | (simp [cmpP]; done) | (simp [cmpP]; omega)) ?_ | refine pl_no rfl rfl rfl rfl rfl rfl (by first | (simp only [cmpP]; omega) | (simp [cmpP]; done) | (simp [cmpP]; omega)) ?_))
        have hat := str_at hlt
        have hs := all_take_succ (l := s.data.toList) (i := i) (by omega)
        have hf := all_take_false (l := s.data.toList) (i := i) (by omega)
        generalize s.data.toList[i]'(by omega) = c at *
        refine pl_val _ rfl rfl (val_strAt s i c (by decide +kernel) rfl rfl rfl rfl hat w2) ?_
        by_cases h3 : c.toNat < 97
        · (repeat (first | refine pl_pure hT rfl rfl rfl ?_ | refine pl_nil ?_ | refine rn_seq ?_ | refine rn_plain ?_ | refine rn_block ?_ | refine rn_inBlock ?_ | refine rn_skip ?_ | refine rn_true rfl ?_ | refine rn_false rfl ?_ | refine rn_exit rfl ?_ | refine pl_not rfl rfl ?_ | refine pl_val _ rfl rfl (val_load1 hT rfl rfl rfl (Blk.cell (by assumption) (by rfl))) ?_ | refine pl_yes rfl rfl rfl rfl rfl (by first | (simp only [cmpP]; omega) | (simp [cmpP]; done) | (simp [cmpP]; omega)) ?_ | refine pl_no rfl rfl rfl rfl rfl rfl (by first | (simp only [cmpP]; omega) | (simp [cmpP]; done) | (simp [cmpP]; omega)) ?_))
          refine rn_ret Try.func39 (.inl ⟨_, rfl, rfl⟩) ⟨?_, rfl⟩
          rw [nameOk, hf (by simp [letter]; omega)]
          rfl
        · (repeat (first | refine pl_pure hT rfl rfl rfl ?_ | refine pl_nil ?_ | refine rn_seq ?_ | refine rn_plain ?_ | refine rn_block ?_ | refine rn_inBlock ?_ | refine rn_skip ?_ | refine rn_true rfl ?_ | refine rn_false rfl ?_ | refine rn_exit rfl ?_ | refine pl_not rfl rfl ?_ | refine pl_val _ rfl rfl (val_load1 hT rfl rfl rfl (Blk.cell (by assumption) (by rfl))) ?_ | refine pl_yes rfl rfl rfl rfl rfl (by first | (simp only [cmpP]; omega) | (simp [cmpP]; done) | (simp [cmpP]; omega)) ?_ | refine pl_no rfl rfl rfl rfl rfl rfl (by first | (simp only [cmpP]; omega) | (simp [cmpP]; done) | (simp [cmpP]; omega)) ?_))
          refine pl_val _ rfl rfl (val_strAt s i c (by decide +kernel) rfl rfl rfl rfl hat w2) ?_
          by_cases h4 : c.toNat > 122
          · (repeat (first | refine pl_pure hT rfl rfl rfl ?_ | refine pl_nil ?_ | refine rn_seq ?_ | refine rn_plain ?_ | refine rn_block ?_ | refine rn_inBlock ?_ | refine rn_skip ?_ | refine rn_true rfl ?_ | refine rn_false rfl ?_ | refine rn_exit rfl ?_ | refine pl_not rfl rfl ?_ | refine pl_val _ rfl rfl (val_load1 hT rfl rfl rfl (Blk.cell (by assumption) (by rfl))) ?_ | refine pl_yes rfl rfl rfl rfl rfl (by first | (simp only [cmpP]; omega) | (simp [cmpP]; done) | (simp [cmpP]; omega)) ?_ | refine pl_no rfl rfl rfl rfl rfl rfl (by first | (simp only [cmpP]; omega) | (simp [cmpP]; done) | (simp [cmpP]; omega)) ?_))
            refine rn_ret Try.func39 (.inl ⟨_, rfl, rfl⟩) ⟨?_, rfl⟩
            rw [nameOk, hf (by simp [letter]; omega)]
            rfl
          · (repeat (first | refine pl_pure hT rfl rfl rfl ?_ | refine pl_nil ?_ | refine rn_seq ?_ | refine rn_plain ?_ | refine rn_block ?_ | refine rn_inBlock ?_ | refine rn_skip ?_ | refine rn_true rfl ?_ | refine rn_false rfl ?_ | refine rn_exit rfl ?_ | refine pl_not rfl rfl ?_ | refine pl_val _ rfl rfl (val_load1 hT rfl rfl rfl (Blk.cell (by assumption) (by rfl))) ?_ | refine pl_yes rfl rfl rfl rfl rfl (by first | (simp only [cmpP]; omega) | (simp [cmpP]; done) | (simp [cmpP]; omega)) ?_ | refine pl_no rfl rfl rfl rfl rfl rfl (by first | (simp only [cmpP]; omega) | (simp [cmpP]; done) | (simp [cmpP]; omega)) ?_))
            refine pl_num (((i + 1 : Nat) : Int)) rfl rfl rfl rfl rfl (by simp only [ariP]; omega) ?_
            (repeat (first | refine pl_pure hT rfl rfl rfl ?_ | refine pl_nil ?_ | refine rn_seq ?_ | refine rn_plain ?_ | refine rn_block ?_ | refine rn_inBlock ?_ | refine rn_skip ?_ | refine rn_true rfl ?_ | refine rn_false rfl ?_ | refine rn_exit rfl ?_ | refine pl_not rfl rfl ?_))
            refine rn_sub ?_ (ih (s.size - (i + 1)) [(0, .string s), (13, .int .i64 (s.size : Nat)), (14, .int .i64 ((i + 1 : Nat) : Int))] w2 (by omega) ⟨i + 1, by omega, rfl, rfl, ?_, rfl⟩)
            · exact ⟨rfl, rfl, rfl, trivial⟩
            · rw [hs, hall]
              simp [letter]
              omega
      · (repeat (first | refine pl_pure hT rfl rfl rfl ?_ | refine pl_nil ?_ | refine rn_seq ?_ | refine rn_plain ?_ | refine rn_block ?_ | refine rn_inBlock ?_ | refine rn_skip ?_ | refine rn_true rfl ?_ | refine rn_false rfl ?_ | refine rn_exit rfl ?_ | refine pl_not rfl rfl ?_ | refine pl_val _ rfl rfl (val_load1 hT rfl rfl rfl (Blk.cell (by assumption) (by rfl))) ?_ | refine pl_yes rfl rfl rfl rfl rfl (by first | (simp only [cmpP]; omega) | (simp [cmpP]; done) | (simp [cmpP]; omega)) ?_ | refine pl_no rfl rfl rfl rfl rfl rfl (by first | (simp only [cmpP]; omega) | (simp [cmpP]; done) | (simp [cmpP]; omega)) ?_))
        refine rn_ret Try.func39 (.inl ⟨_, rfl, rfl⟩) ⟨?_, rfl⟩
        rw [List.take_of_length_le (by omega)] at hall
        have e1 : 1 ≤ s.size := by omega
        have e2 : s.size ≤ 8 := by omega
        simp only [nameOk, hall, e1, e2, decide_true, Bool.and_self]

theorem zeroE_eq (op v n : Int) (l : List ET) : zeroE (.mk op v n l) = (decide (op = 0) && decide (v = 0) && decide (n = 0) && decide (l.length = 0)) := by
  cases l with
  | nil => simp only [zeroE, List.isEmpty, List.length, decide_true, Bool.and_true]; rfl
  | cons x r => simp [zeroE]

theorem isZero_ret {F : Nat → Prop} {w : World} {cs : List Value} {t : ET} (h : ExprV F w cs t) : Ret Try.prog 105 [.agg cs.toArray] w fun v w' => v = .bool (zeroE t) ∧ Keep [] w w' := by
  obtain ⟨op, v, n, l⟩ := t
  obtain ⟨lv, rfl, hl⟩ := h.inv
  obtain ⟨a, cap, rfl⟩ := hl.form
  refine ret_of 22 Try.func105 rfl rfl (by simp) ?_
  (repeat (first | refine pl_pure hT rfl rfl rfl ?_ | refine pl_nil ?_ | refine rn_seq ?_ | refine rn_plain ?_ | refine rn_block ?_ | refine rn_inBlock ?_ | refine rn_skip ?_ | refine rn_true rfl ?_ | refine rn_false rfl ?_ | refine rn_exit rfl ?_ | refine pl_not rfl rfl ?_))
  refine pl_op rfl rfl (opTo_box [.int .i64 op, .int .i64 v, .int .i64 n, .slice a l.length cap] rfl rfl rfl ?_)
  have hk0 : Keep [] w (w.alloc (.cells [.int .i64 op, .int .i64 v, .int .i64 n, .slice a l.length cap].toArray 117)) := (Keep.refl _ _).alloc _
  have hb0 : Blk (w.alloc (.cells [.int .i64 op, .int .i64 v, .int .i64 n, .slice a l.length cap].toArray 117)) w.heap.size [.int .i64 op, .int .i64 v, .int .i64 n, .slice a l.length cap] 117 := Blk.new _ _ _
  generalize (w.alloc (.cells [.int .i64 op, .int .i64 v, .int .i64 n, .slice a l.length cap].toArray 117)) = w1 at *
  generalize w.heap.size = b at *
  rw [zeroE_eq]
  by_cases h1 : op = 0
  · by_cases h2 : v = 0
    · by_cases h3 : n = 0
      · by_cases h4 : l.length = 0
        · (repeat (first | refine pl_pure hT rfl rfl rfl ?_ | refine pl_nil ?_ | refine rn_seq ?_ | refine rn_plain ?_ | refine rn_block ?_ | refine rn_inBlock ?_ | refine rn_skip ?_ | refine rn_true rfl ?_ | refine rn_false rfl ?_ | refine rn_exit rfl ?_ | refine pl_not rfl rfl ?_ | refine pl_val _ rfl rfl (val_load1 hT rfl rfl rfl (Blk.cell (by assumption) (by rfl))) ?_ | refine pl_yes rfl rfl rfl rfl rfl (by first | (simp only [cmpP]; omega) | (simp [cmpP]; done) | (simp [cmpP]; omega)) ?_ | refine pl_no rfl rfl rfl rfl rfl rfl (by first | (simp only [cmpP]; omega) | (simp [cmpP]; done) | (simp [cmpP]; omega)) ?_))
          exact rn_ret Try.func105 (.inl ⟨_, rfl, rfl⟩) ⟨by simp [h1, h2, h3, h4], hk0⟩
        · (repeat (first | refine pl_pure hT rfl rfl rfl ?_ | refine pl_nil ?_ | refine rn_seq ?_ | refine rn_plain ?_ | refine rn_block ?_ | refine rn_inBlock ?_ | refine rn_skip ?_ | refine rn_true rfl ?_ | refine rn_false rfl ?_ | refine rn_exit rfl ?_ | refine pl_not rfl rfl ?_ | refine pl_val _ rfl rfl (val_load1 hT rfl rfl rfl (Blk.cell (by assumption) (by rfl))) ?_ | refine pl_yes rfl rfl rfl rfl rfl (by first | (simp only [cmpP]; omega) | (simp [cmpP]; done) | (simp [cmpP]; omega)) ?_ | refine pl_no rfl rfl rfl rfl rfl rfl (by first | (simp only [cmpP]; omega) | (simp [cmpP]; done) | (simp [cmpP]; omega)) ?_))
          exact rn_ret Try.func105 (.inl ⟨_, rfl, rfl⟩) ⟨by simp [h1, h2, h3, h4], hk0⟩
      · (repeat (first | refine pl_pure hT rfl rfl rfl ?_ | refine pl_nil ?_ | refine rn_seq ?_ | refine rn_plain ?_ | refine rn_block ?_ | refine rn_inBlock ?_ | refine rn_skip ?_ | refine rn_true rfl ?_ | refine rn_false rfl ?_ | refine rn_exit rfl ?_ | refine pl_not rfl rfl ?_ | refine pl_val _ rfl rfl (val_load1 hT rfl rfl rfl (Blk.cell (by assumption) (by rfl))) ?_ | refine pl_yes rfl rfl rfl rfl rfl (by first | (simp only [cmpP]; omega) | (simp [cmpP]; done) | (simp [cmpP]; omega)) ?_ | refine pl_no rfl rfl rfl rfl rfl rfl (by first | (simp only [cmpP]; omega) | (simp [cmpP]; done) | (simp [cmpP]; omega)) ?_))
        exact rn_ret Try.func105 (.inl ⟨_, rfl, rfl⟩) ⟨by simp [h1, h2, h3], hk0⟩
    · (repeat (first | refine pl_pure hT rfl rfl rfl ?_ | refine pl_nil ?_ | refine rn_seq ?_ | refine rn_plain ?_ | refine rn_block ?_ | refine rn_inBlock ?_ | refine rn_skip ?_ | refine rn_true rfl ?_ | refine rn_false rfl ?_ | refine rn_exit rfl ?_ | refine pl_not rfl rfl ?_ | refine pl_val _ rfl rfl (val_load1 hT rfl rfl rfl (Blk.cell (by assumption) (by rfl))) ?_ | refine pl_yes rfl rfl rfl rfl rfl (by first | (simp only [cmpP]; omega) | (simp [cmpP]; done) | (simp [cmpP]; omega)) ?_ | refine pl_no rfl rfl rfl rfl rfl rfl (by first | (simp only [cmpP]; omega) | (simp [cmpP]; done) | (simp [cmpP]; omega)) ?_))
      exact rn_ret Try.func105 (.inl ⟨_, rfl, rfl⟩) ⟨by simp [h1, h2], hk0⟩
  · (repeat (first | refine pl_pure hT rfl rfl rfl ?_ | refine pl_nil ?_ | refine rn_seq ?_ | refine rn_plain ?_ | refine rn_block ?_ | refine rn_inBlock ?_ | refine rn_skip ?_ | refine rn_true rfl ?_ | refine rn_false rfl ?_ | refine rn_exit rfl ?_ | refine pl_not rfl rfl ?_ | refine pl_val _ rfl rfl (val_load1 hT rfl rfl rfl (Blk.cell (by assumption) (by rfl))) ?_ | refine pl_yes rfl rfl rfl rfl rfl (by first | (simp only [cmpP]; omega) | (simp [cmpP]; done) | (simp [cmpP]; omega)) ?_ | refine pl_no rfl rfl rfl rfl rfl rfl (by first | (simp only [cmpP]; omega) | (simp [cmpP]; done) | (simp [cmpP]; omega)) ?_))
    exact rn_ret Try.func105 (.inl ⟨_, rfl, rfl⟩) ⟨by simp [h1], hk0⟩
end E
end Go.Proofs.Ytpbdjpoohpocfab
