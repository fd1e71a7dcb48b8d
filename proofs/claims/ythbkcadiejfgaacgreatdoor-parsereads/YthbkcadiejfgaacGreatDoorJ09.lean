/- Several texts in one: CoA, CoB, CoM, CoC, CoC2. -/
import Derived.Test.YthbkcadiejfgaacGreatDoorJ02
import Derived.Test.YthbkcadiejfgaacGreatDoorJ06
/- Contracts of the document's functions that go through a program's trees: how many parts, and whether it is great. -/
namespace Go.Proofs.YthbkcadiejfgaacGreatDoor
set_option maxRecDepth 20000
set_option maxHeartbeats 4000000
namespace E
open Go.Proofs


end E
end Go.Proofs.YthbkcadiejfgaacGreatDoor

/- Contracts of package code's smallest functions: what a kind has, what a name is. -/
namespace Go.Proofs.YthbkcadiejfgaacGreatDoor
set_option maxRecDepth 20000
set_option maxHeartbeats 4000000
namespace E
open Go.Proofs

theorem parts_ret (op : Int) (w : World) : Ret Tryz.prog 100 [.int .i64 op] w fun v w' => v = .int .i64 (partsOf op) ∧ w' = w := by
  refine ret_of 20 Tryz.func100 rfl rfl (by simp) ?_
  have h : op < 1 ∨ op > 8 ∨ op = 1 ∨ op = 2 ∨ op = 3 ∨ (4 ≤ op ∧ op ≤ 8) := by omega
  rcases h with h | h | h | h | h | h <;> ((repeat (first | refine pl_pure hT rfl rfl rfl ?_ | refine pl_nil ?_ | refine rn_seq ?_ | refine rn_plain ?_ | refine rn_block ?_ | refine rn_inBlock ?_ | refine rn_skip ?_ | refine rn_true rfl ?_ | refine rn_false rfl ?_ | refine rn_exit rfl ?_ | refine pl_not rfl rfl ?_ | refine pl_val _ rfl rfl (val_load1 hT rfl rfl rfl (Blk.cell (by assumption) (by rfl))) ?_ | refine pl_yes rfl rfl rfl rfl rfl (by first | (simp only [cmpP]; omega) | (simp [cmpP]; done) | (simp [cmpP]; omega)) ?_ | refine pl_no rfl rfl rfl rfl rfl rfl (by first | (simp only [cmpP]; omega) | (simp [cmpP]; done) | (simp [cmpP]; omega)) ?_)); refine rn_ret Tryz.func100 (.inl ⟨_, rfl, rfl⟩) ⟨?_, rfl⟩; congr 1; (unfold partsOf; repeat' split) <;> omega)

def hasV (op : Int) : Value := .tuple #[.bool (needE op), .bool (needF op), .bool (needV op), .bool (needB op), .bool (needO op)]

theorem has_ret (op : Int) (w : World) : Ret Tryz.prog 83 [.int .i64 op] w fun v w' => v = hasV op ∧ w' = w := by
  refine ret_of 20 Tryz.func83 rfl rfl (by simp) ?_
  have h : op = 1 ∨ op = 2 ∨ op = 3 ∨ op = 4 ∨ op = 5 ∨ op = 6 ∨ (op ≠ 1 ∧ op ≠ 2 ∧ op ≠ 3 ∧ op ≠ 4 ∧ op ≠ 5 ∧ op ≠ 6) := by omega
  rcases h with h | h | h | h | h | h | h
  · subst h; (repeat (first | refine pl_pure hT rfl rfl rfl ?_ | refine pl_nil ?_ | refine rn_seq ?_ | refine rn_plain ?_ | refine rn_block ?_ | refine rn_inBlock ?_ | refine rn_skip ?_ | refine rn_true rfl ?_ | refine rn_false rfl ?_ | refine rn_exit rfl ?_ | refine pl_not rfl rfl ?_ | refine pl_val _ rfl rfl (val_load1 hT rfl rfl rfl (Blk.cell (by assumption) (by rfl))) ?_ | refine pl_yes rfl rfl rfl rfl rfl (by first | (simp only [cmpP]; omega) | (simp [cmpP]; done) | (simp [cmpP]; omega)) ?_ | refine pl_no rfl rfl rfl rfl rfl rfl (by first | (simp only [cmpP]; omega) | (simp [cmpP]; done) | (simp [cmpP]; omega)) ?_)); exact rn_ret5 Tryz.func83 rfl rfl rfl rfl rfl rfl ⟨rfl, rfl⟩
  · subst h; (repeat (first | refine pl_pure hT rfl rfl rfl ?_ | refine pl_nil ?_ | refine rn_seq ?_ | refine rn_plain ?_ | refine rn_block ?_ | refine rn_inBlock ?_ | refine rn_skip ?_ | refine rn_true rfl ?_ | refine rn_false rfl ?_ | refine rn_exit rfl ?_ | refine pl_not rfl rfl ?_ | refine pl_val _ rfl rfl (val_load1 hT rfl rfl rfl (Blk.cell (by assumption) (by rfl))) ?_ | refine pl_yes rfl rfl rfl rfl rfl (by first | (simp only [cmpP]; omega) | (simp [cmpP]; done) | (simp [cmpP]; omega)) ?_ | refine pl_no rfl rfl rfl rfl rfl rfl (by first | (simp only [cmpP]; omega) | (simp [cmpP]; done) | (simp [cmpP]; omega)) ?_)); exact rn_ret5 Tryz.func83 rfl rfl rfl rfl rfl rfl ⟨rfl, rfl⟩
  · subst h; (repeat (first | refine pl_pure hT rfl rfl rfl ?_ | refine pl_nil ?_ | refine rn_seq ?_ | refine rn_plain ?_ | refine rn_block ?_ | refine rn_inBlock ?_ | refine rn_skip ?_ | refine rn_true rfl ?_ | refine rn_false rfl ?_ | refine rn_exit rfl ?_ | refine pl_not rfl rfl ?_ | refine pl_val _ rfl rfl (val_load1 hT rfl rfl rfl (Blk.cell (by assumption) (by rfl))) ?_ | refine pl_yes rfl rfl rfl rfl rfl (by first | (simp only [cmpP]; omega) | (simp [cmpP]; done) | (simp [cmpP]; omega)) ?_ | refine pl_no rfl rfl rfl rfl rfl rfl (by first | (simp only [cmpP]; omega) | (simp [cmpP]; done) | (simp [cmpP]; omega)) ?_)); exact rn_ret5 Tryz.func83 rfl rfl rfl rfl rfl rfl ⟨rfl, rfl⟩
  · subst h; (repeat (first | refine pl_pure hT rfl rfl rfl ?_ | refine pl_nil ?_ | refine rn_seq ?_ | refine rn_plain ?_ | refine rn_block ?_ | refine rn_inBlock ?_ | refine rn_skip ?_ | refine rn_true rfl ?_ | refine rn_false rfl ?_ | refine rn_exit rfl ?_ | refine pl_not rfl rfl ?_ | refine pl_val _ rfl rfl (val_load1 hT rfl rfl rfl (Blk.cell (by assumption) (by rfl))) ?_ | refine pl_yes rfl rfl rfl rfl rfl (by first | (simp only [cmpP]; omega) | (simp [cmpP]; done) | (simp [cmpP]; omega)) ?_ | refine pl_no rfl rfl rfl rfl rfl rfl (by first | (simp only [cmpP]; omega) | (simp [cmpP]; done) | (simp [cmpP]; omega)) ?_)); exact rn_ret5 Tryz.func83 rfl rfl rfl rfl rfl rfl ⟨rfl, rfl⟩
  · subst h; (repeat (first | refine pl_pure hT rfl rfl rfl ?_ | refine pl_nil ?_ | refine rn_seq ?_ | refine rn_plain ?_ | refine rn_block ?_ | refine rn_inBlock ?_ | refine rn_skip ?_ | refine rn_true rfl ?_ | refine rn_false rfl ?_ | refine rn_exit rfl ?_ | refine pl_not rfl rfl ?_ | refine pl_val _ rfl rfl (val_load1 hT rfl rfl rfl (Blk.cell (by assumption) (by rfl))) ?_ | refine pl_yes rfl rfl rfl rfl rfl (by first | (simp only [cmpP]; omega) | (simp [cmpP]; done) | (simp [cmpP]; omega)) ?_ | refine pl_no rfl rfl rfl rfl rfl rfl (by first | (simp only [cmpP]; omega) | (simp [cmpP]; done) | (simp [cmpP]; omega)) ?_)); exact rn_ret5 Tryz.func83 rfl rfl rfl rfl rfl rfl ⟨rfl, rfl⟩
  · subst h; (repeat (first | refine pl_pure hT rfl rfl rfl ?_ | refine pl_nil ?_ | refine rn_seq ?_ | refine rn_plain ?_ | refine rn_block ?_ | refine rn_inBlock ?_ | refine rn_skip ?_ | refine rn_true rfl ?_ | refine rn_false rfl ?_ | refine rn_exit rfl ?_ | refine pl_not rfl rfl ?_ | refine pl_val _ rfl rfl (val_load1 hT rfl rfl rfl (Blk.cell (by assumption) (by rfl))) ?_ | refine pl_yes rfl rfl rfl rfl rfl (by first | (simp only [cmpP]; omega) | (simp [cmpP]; done) | (simp [cmpP]; omega)) ?_ | refine pl_no rfl rfl rfl rfl rfl rfl (by first | (simp only [cmpP]; omega) | (simp [cmpP]; done) | (simp [cmpP]; omega)) ?_)); exact rn_ret5 Tryz.func83 rfl rfl rfl rfl rfl rfl ⟨rfl, rfl⟩
  · (repeat (first | refine pl_pure hT rfl rfl rfl ?_ | refine pl_nil ?_ | refine rn_seq ?_ | refine rn_plain ?_ | refine rn_block ?_ | refine rn_inBlock ?_ | refine rn_skip ?_ | refine rn_true rfl ?_ | refine rn_false rfl ?_ | refine rn_exit rfl ?_ | refine pl_not rfl rfl ?_ | refine pl_val _ rfl rfl (val_load1 hT rfl rfl rfl (Blk.cell (by assumption) (by rfl))) ?_ | refine pl_yes rfl rfl rfl rfl rfl (by first | (simp only [cmpP]; omega) | (simp [cmpP]; done) | (simp [cmpP]; omega)) ?_ | refine pl_no rfl rfl rfl rfl rfl rfl (by first | (simp only [cmpP]; omega) | (simp [cmpP]; done) | (simp [cmpP]; omega)) ?_))
    refine rn_ret5 Tryz.func83 rfl rfl rfl rfl rfl rfl ⟨?_, rfl⟩
    simp [hasV, needE, needF, needV, needB, needO, h]

theorem str_at {s : ByteArray} {j : Nat} (h : j < s.size) : s[j]? = some (s.data.toList[j]'(by simpa using h)) := by
  rw [getElem?_pos s j h]
  rfl

theorem all_take_succ {l : List UInt8} {i : Nat} (h : i < l.length) : (l.take (i + 1)).all letter = ((l.take i).all letter && letter l[i]) := by
  rw [List.take_succ_eq_append_getElem h, List.all_append]
  simp only [List.all_cons, List.all_nil, Bool.and_true]
theorem all_take_false {l : List UInt8} {i : Nat} (h : i < l.length) (hl : letter l[i] = false) : l.all letter = false := by
  rw [List.all_eq_false]
  exact ⟨l[i], List.getElem_mem h, by simp [hl]⟩

theorem name_ret (s : ByteArray) (w : World) : Ret Tryz.prog 65 [.string s] w fun v w' => v = .bool (nameOk s) ∧ w' = w := by
  refine ret_of 28 Tryz.func65 rfl rfl (by simp) ?_
  (repeat (first | refine pl_pure hT rfl rfl rfl ?_ | refine pl_nil ?_ | refine rn_seq ?_ | refine rn_plain ?_ | refine rn_block ?_ | refine rn_inBlock ?_ | refine rn_skip ?_ | refine rn_true rfl ?_ | refine rn_false rfl ?_ | refine rn_exit rfl ?_ | refine pl_not rfl rfl ?_))
  refine pl_val _ rfl rfl (val_strLen s (by decide +kernel) rfl rfl w) ?_
  by_cases h1 : s.size < 1
  · (repeat (first | refine pl_pure hT rfl rfl rfl ?_ | refine pl_nil ?_ | refine rn_seq ?_ | refine rn_plain ?_ | refine rn_block ?_ | refine rn_inBlock ?_ | refine rn_skip ?_ | refine rn_true rfl ?_ | refine rn_false rfl ?_ | refine rn_exit rfl ?_ | refine pl_not rfl rfl ?_ | refine pl_val _ rfl rfl (val_load1 hT rfl rfl rfl (Blk.cell (by assumption) (by rfl))) ?_ | refine pl_yes rfl rfl rfl rfl rfl (by first | (simp only [cmpP]; omega) | (simp [cmpP]; done) | (simp [cmpP]; omega)) ?_ | refine pl_no rfl rfl rfl rfl rfl rfl (by first | (simp only [cmpP]; omega) | (simp [cmpP]; done) | (simp [cmpP]; omega)) ?_))
    refine rn_ret Tryz.func65 (.inl ⟨_, rfl, rfl⟩) ⟨?_, rfl⟩
    have : ¬ 1 ≤ s.size := by omega
    simp [nameOk, this]
  · (repeat (first | refine pl_pure hT rfl rfl rfl ?_ | refine pl_nil ?_ | refine rn_seq ?_ | refine rn_plain ?_ | refine rn_block ?_ | refine rn_inBlock ?_ | refine rn_skip ?_ | refine rn_true rfl ?_ | refine rn_false rfl ?_ | refine rn_exit rfl ?_ | refine pl_not rfl rfl ?_ | refine pl_val _ rfl rfl (val_load1 hT rfl rfl rfl (Blk.cell (by assumption) (by rfl))) ?_ | refine pl_yes rfl rfl rfl rfl rfl (by first | (simp only [cmpP]; omega) | (simp [cmpP]; done) | (simp [cmpP]; omega)) ?_ | refine pl_no rfl rfl rfl rfl rfl rfl (by first | (simp only [cmpP]; omega) | (simp [cmpP]; done) | (simp [cmpP]; omega)) ?_))
    refine pl_val _ rfl rfl (val_strLen s (by decide +kernel) rfl rfl w) ?_
    by_cases h2 : s.size > 8
    · (repeat (first | refine pl_pure hT rfl rfl rfl ?_ | refine pl_nil ?_ | refine rn_seq ?_ | refine rn_plain ?_ | refine rn_block ?_ | refine rn_inBlock ?_ | refine rn_skip ?_ | refine rn_true rfl ?_ | refine rn_false rfl ?_ | refine rn_exit rfl ?_ | refine pl_not rfl rfl ?_ | refine pl_val _ rfl rfl (val_load1 hT rfl rfl rfl (Blk.cell (by assumption) (by rfl))) ?_ | refine pl_yes rfl rfl rfl rfl rfl (by first | (simp only [cmpP]; omega) | (simp [cmpP]; done) | (simp [cmpP]; omega)) ?_ | refine pl_no rfl rfl rfl rfl rfl rfl (by first | (simp only [cmpP]; omega) | (simp [cmpP]; done) | (simp [cmpP]; omega)) ?_))
      refine rn_ret Tryz.func65 (.inl ⟨_, rfl, rfl⟩) ⟨?_, rfl⟩
      have : ¬ s.size ≤ 8 := by omega
      simp [nameOk, this]
    · (repeat (first | refine pl_pure hT rfl rfl rfl ?_ | refine pl_nil ?_ | refine rn_seq ?_ | refine rn_plain ?_ | refine rn_block ?_ | refine rn_inBlock ?_ | refine rn_skip ?_ | refine rn_true rfl ?_ | refine rn_false rfl ?_ | refine rn_exit rfl ?_ | refine pl_not rfl rfl ?_ | refine pl_val _ rfl rfl (val_load1 hT rfl rfl rfl (Blk.cell (by assumption) (by rfl))) ?_ | refine pl_yes rfl rfl rfl rfl rfl (by first | (simp only [cmpP]; omega) | (simp [cmpP]; done) | (simp [cmpP]; omega)) ?_ | refine pl_no rfl rfl rfl rfl rfl rfl (by first | (simp only [cmpP]; omega) | (simp [cmpP]; done) | (simp [cmpP]; omega)) ?_))
      refine pl_val _ rfl rfl (val_strLen s (by decide +kernel) rfl rfl w) ?_
      (repeat (first | refine pl_pure hT rfl rfl rfl ?_ | refine pl_nil ?_ | refine rn_seq ?_ | refine rn_plain ?_ | refine rn_block ?_ | refine rn_inBlock ?_ | refine rn_skip ?_ | refine rn_true rfl ?_ | refine rn_false rfl ?_ | refine rn_exit rfl ?_ | refine pl_not rfl rfl ?_))
      have hsz : s.data.toList.length = s.size := by simp
      refine rn_ind (fun m σ w' => ∃ i : Nat, i ≤ s.size ∧ m = s.size - i ∧ σ = [(0, .string s), (13, .int .i64 (s.size : Nat)), (14, .int .i64 (i : Nat))] ∧ (s.data.toList.take i).all letter = true ∧ w' = w) s.size _ ?_ ⟨0, by omega, by omega, rfl, by simp, rfl⟩ ?_
      · exact ⟨rfl, rfl, rfl, trivial⟩
      rintro m σ w2 ih ⟨i, hi, rfl, rfl, hall, rfl⟩
      by_cases hlt : i < s.size
      · (repeat (first | refine pl_pure hT rfl rfl rfl ?_ | refine pl_nil ?_ | refine rn_seq ?_ | refine rn_plain ?_ | refine rn_block ?_ | refine rn_inBlock ?_ | refine rn_skip ?_ | refine rn_true rfl ?_ | refine rn_false rfl ?_ | refine rn_exit rfl ?_ | refine pl_not rfl rfl ?_ | refine pl_val _ rfl rfl (val_load1 hT rfl rfl rfl (Blk.cell (by assumption) (by rfl))) ?_ | refine pl_yes rfl rfl rfl rfl rfl (by first | (simp only [cmpP]; omega) | (simp [cmpP]; done) | (simp [cmpP]; omega)) ?_ | refine pl_no rfl rfl rfl rfl rfl rfl (by first | (simp only [cmpP]; omega) | (simp [cmpP]; done) | (simp [cmpP]; omega)) ?_))
        have hat := str_at hlt
        have hs := all_take_succ (l := s.data.toList) (i := i) (by omega)
        have hf := all_take_false (l := s.data.toList) (i := i) (by omega)
        generalize s.data.toList[i]'(by omega) = c at *
        refine pl_val _ rfl rfl (val_strAt s i c (by decide +kernel) rfl rfl rfl rfl hat w2) ?_
        by_cases h3 : c.toNat < 97
        · (repeat (first | refine pl_pure hT rfl rfl rfl ?_ | refine pl_nil ?_ | refine rn_seq ?_ | refine rn_plain ?_ | refine rn_block ?_ | refine rn_inBlock ?_ | refine rn_skip ?_ | refine rn_true rfl ?_ | refine rn_false rfl ?_ | refine rn_exit rfl ?_ | refine pl_not rfl rfl ?_ | refine pl_val _ rfl rfl (val_load1 hT rfl rfl rfl (Blk.cell (by assumption) (by rfl))) ?_ | refine pl_yes rfl rfl rfl rfl rfl (by first | (simp only [cmpP]; omega) | (simp [cmpP]; done) | (simp [cmpP]; omega)) ?_ | refine pl_no rfl rfl rfl rfl rfl rfl (by first | (simp only [cmpP]; omega) | (simp [cmpP]; done) | (simp [cmpP]; omega)) ?_))
          refine rn_ret Tryz.func65 (.inl ⟨_, rfl, rfl⟩) ⟨?_, rfl⟩
          rw [nameOk, hf (by simp [letter]; omega)]
          rfl
        · (repeat (first | refine pl_pure hT rfl rfl rfl ?_ | refine pl_nil ?_ | refine rn_seq ?_ | refine rn_plain ?_ | refine rn_block ?_ | refine rn_inBlock ?_ | refine rn_skip ?_ | refine rn_true rfl ?_ | refine rn_false rfl ?_ | refine rn_exit rfl ?_ | refine pl_not rfl rfl ?_ | refine pl_val _ rfl rfl (val_load1 hT rfl rfl rfl (Blk.cell (by assumption) (by rfl))) ?_ | refine pl_yes rfl rfl rfl rfl rfl (by first | (simp only [cmpP]; omega) | (simp [cmpP]; done) | (simp [cmpP]; omega)) ?_ | refine pl_no rfl rfl rfl rfl rfl rfl (by first | (simp only [cmpP]; omega) | (simp [cmpP]; done) | (simp [cmpP]; omega)) ?_))
          refine pl_val _ rfl rfl (val_strAt s i c (by decide +kernel) rfl rfl rfl rfl hat w2) ?_
          by_cases h4 : c.toNat > 122
          · (repeat (first | refine pl_pure hT rfl rfl rfl ?_ | refine pl_nil ?_ | refine rn_seq ?_ | refine rn_plain ?_ | refine rn_block ?_ | refine rn_inBlock ?_ | refine rn_skip ?_ | refine rn_true rfl ?_ | refine rn_false rfl ?_ | refine rn_exit rfl ?_ | refine pl_not rfl rfl ?_ | refine pl_val _ rfl rfl (val_load1 hT rfl rfl rfl (Blk.cell (by assumption) (by rfl))) ?_ | refine pl_yes rfl rfl rfl rfl rfl (by first | (simp only [cmpP]; omega) | (simp [cmpP]; done) | (simp [cmpP]; omega)) ?_ | refine pl_no rfl rfl rfl rfl rfl rfl (by first | (simp only [cmpP]; omega) | (simp [cmpP]; done) | (simp [cmpP]; omega)) ?_))
            refine rn_ret Tryz.func65 (.inl ⟨_, rfl, rfl⟩) ⟨?_, rfl⟩
            rw [nameOk, hf (by simp [letter]; omega)]
            rfl
          · (repeat (first | refine pl_pure hT rfl rfl rfl ?_ | refine pl_nil ?_ | refine rn_seq ?_ | refine rn_plain ?_ | refine rn_block ?_ | refine rn_inBlock ?_ | refine rn_skip ?_ | refine rn_true rfl ?_ | refine rn_false rfl ?_ | refine rn_exit rfl ?_ | refine pl_not rfl rfl ?_ | refine pl_val _ rfl rfl (val_load1 hT rfl rfl rfl (Blk.cell (by assumption) (by rfl))) ?_ | refine pl_yes rfl rfl rfl rfl rfl (by first | (simp only [cmpP]; omega) | (simp [cmpP]; done) | (simp [cmpP]; omega)) ?_ | refine pl_no rfl rfl rfl rfl rfl rfl (by first | (simp only [cmpP]; omega) | (simp [cmpP]; done) | (simp [cmpP]; omega)) ?_))
            refine pl_num (((i + 1 : Nat) : Int)) rfl rfl rfl rfl rfl (by simp only [ariP]; omega) ?_
            (repeat (first | refine pl_pure hT rfl rfl rfl ?_ | refine pl_nil ?_ | refine rn_seq ?_ | refine rn_plain ?_ | refine rn_block ?_ | refine rn_inBlock ?_ | refine rn_skip ?_ | refine rn_true rfl ?_ | refine rn_false rfl ?_ | refine rn_exit rfl ?_ | refine pl_not rfl rfl ?_))
            refine rn_sub ?_ (ih (s.size - (i + 1)) [(0, .string s), (13, .int .i64 (s.size : Nat)), (14, .int .i64 ((i + 1 : Nat) : Int))] w2 (by omega) ⟨i + 1, by omega, rfl, rfl, ?_, rfl⟩)
            · exact ⟨rfl, rfl, rfl, trivial⟩
            · rw [hs, hall]
              simp [letter]
              omega
      · (repeat (first | refine pl_pure hT rfl rfl rfl ?_ | refine pl_nil ?_ | refine rn_seq ?_ | refine rn_plain ?_ | refine rn_block ?_ | refine rn_inBlock ?_ | refine rn_skip ?_ | refine rn_true rfl ?_ | refine rn_false rfl ?_ | refine rn_exit rfl ?_ | refine pl_not rfl rfl ?_ | refine pl_val _ rfl rfl (val_load1 hT rfl rfl rfl (Blk.cell (by assumption) (by rfl))) ?_ | refine pl_yes rfl rfl rfl rfl rfl (by first | (simp only [cmpP]; omega) | (simp [cmpP]; done) | (simp [cmpP]; omega)) ?_ | refine pl_no rfl rfl rfl rfl rfl rfl (by first | (simp only [cmpP]; omega) | (simp [cmpP]; done) | (simp [cmpP]; omega)) ?_))
        refine rn_ret Tryz.func65 (.inl ⟨_, rfl, rfl⟩) ⟨?_, rfl⟩
        rw [List.take_of_length_le (by omega)] at hall
        have e1 : 1 ≤ s.size := by omega
        have e2 : s.size ≤ 8 := by omega
        simp only [nameOk, hall, e1, e2, decide_true, Bool.and_self]

theorem zeroE_eq (op v n : Int) (l : List ET) : zeroE (.mk op v n l) = (decide (op = 0) && decide (v = 0) && decide (n = 0) && decide (l.length = 0)) := by
  cases l with
  | nil => simp only [zeroE, List.isEmpty, List.length, decide_true, Bool.and_true]; rfl
  | cons x r => simp [zeroE]

theorem isZero_ret {F : Nat → Prop} {w : World} {cs : List Value} {t : ET} (h : ExprV F w cs t) : Ret Tryz.prog 84 [.agg cs.toArray] w fun v w' => v = .bool (zeroE t) ∧ Keep [] w w' := by
  obtain ⟨op, v, n, l⟩ := t
  obtain ⟨lv, rfl, hl⟩ := h.inv
  obtain ⟨a, cap, rfl⟩ := hl.form
  refine ret_of 22 Tryz.func84 rfl rfl (by simp) ?_
  (repeat (first | refine pl_pure hT rfl rfl rfl ?_ | refine pl_nil ?_ | refine rn_seq ?_ | refine rn_plain ?_ | refine rn_block ?_ | refine rn_inBlock ?_ | refine rn_skip ?_ | refine rn_true rfl ?_ | refine rn_false rfl ?_ | refine rn_exit rfl ?_ | refine pl_not rfl rfl ?_))
  refine pl_op rfl rfl (opTo_box [.int .i64 op, .int .i64 v, .int .i64 n, .slice a l.length cap] rfl rfl rfl ?_)
  have hk0 : Keep [] w (w.alloc (.cells [.int .i64 op, .int .i64 v, .int .i64 n, .slice a l.length cap].toArray 41)) := (Keep.refl _ _).alloc _
  have hb0 : Blk (w.alloc (.cells [.int .i64 op, .int .i64 v, .int .i64 n, .slice a l.length cap].toArray 41)) w.heap.size [.int .i64 op, .int .i64 v, .int .i64 n, .slice a l.length cap] 41 := Blk.new _ _ _
  generalize (w.alloc (.cells [.int .i64 op, .int .i64 v, .int .i64 n, .slice a l.length cap].toArray 41)) = w1 at *
  generalize w.heap.size = b at *
  rw [zeroE_eq]
  by_cases h1 : op = 0
  · by_cases h2 : v = 0
    · by_cases h3 : n = 0
      · by_cases h4 : l.length = 0
        · (repeat (first | refine pl_pure hT rfl rfl rfl ?_ | refine pl_nil ?_ | refine rn_seq ?_ | refine rn_plain ?_ | refine rn_block ?_ | refine rn_inBlock ?_ | refine rn_skip ?_ | refine rn_true rfl ?_ | refine rn_false rfl ?_ | refine rn_exit rfl ?_ | refine pl_not rfl rfl ?_ | refine pl_val _ rfl rfl (val_load1 hT rfl rfl rfl (Blk.cell (by assumption) (by rfl))) ?_ | refine pl_yes rfl rfl rfl rfl rfl (by first | (simp only [cmpP]; omega) | (simp [cmpP]; done) | (simp [cmpP]; omega)) ?_ | refine pl_no rfl rfl rfl rfl rfl rfl (by first | (simp only [cmpP]; omega) | (simp [cmpP]; done) | (simp [cmpP]; omega)) ?_))
          exact rn_ret Tryz.func84 (.inl ⟨_, rfl, rfl⟩) ⟨by simp [h1, h2, h3, h4], hk0⟩
        · (repeat (first | refine pl_pure hT rfl rfl rfl ?_ | refine pl_nil ?_ | refine rn_seq ?_ | refine rn_plain ?_ | refine rn_block ?_ | refine rn_inBlock ?_ | refine rn_skip ?_ | refine rn_true rfl ?_ | refine rn_false rfl ?_ | refine rn_exit rfl ?_ | refine pl_not rfl rfl ?_ | refine pl_val _ rfl rfl (val_load1 hT rfl rfl rfl (Blk.cell (by assumption) (by rfl))) ?_ | refine pl_yes rfl rfl rfl rfl rfl (by first | (simp only [cmpP]; omega) | (simp [cmpP]; done) | (simp [cmpP]; omega)) ?_ | refine pl_no rfl rfl rfl rfl rfl rfl (by first | (simp only [cmpP]; omega) | (simp [cmpP]; done) | (simp [cmpP]; omega)) ?_))
          exact rn_ret Tryz.func84 (.inl ⟨_, rfl, rfl⟩) ⟨by simp [h1, h2, h3, h4], hk0⟩
      · (repeat (first | refine pl_pure hT rfl rfl rfl ?_ | refine pl_nil ?_ | refine rn_seq ?_ | refine rn_plain ?_ | refine rn_block ?_ | refine rn_inBlock ?_ | refine rn_skip ?_ | refine rn_true rfl ?_ | refine rn_false rfl ?_ | refine rn_exit rfl ?_ | refine pl_not rfl rfl ?_ | refine pl_val _ rfl rfl (val_load1 hT rfl rfl rfl (Blk.cell (by assumption) (by rfl))) ?_ | refine pl_yes rfl rfl rfl rfl rfl (by first | (simp only [cmpP]; omega) | (simp [cmpP]; done) | (simp [cmpP]; omega)) ?_ | refine pl_no rfl rfl rfl rfl rfl rfl (by first | (simp only [cmpP]; omega) | (simp [cmpP]; done) | (simp [cmpP]; omega)) ?_))
        exact rn_ret Tryz.func84 (.inl ⟨_, rfl, rfl⟩) ⟨by simp [h1, h2, h3], hk0⟩
    · (repeat (first | refine pl_pure hT rfl rfl rfl ?_ | refine pl_nil ?_ | refine rn_seq ?_ | refine rn_plain ?_ | refine rn_block ?_ | refine rn_inBlock ?_ | refine rn_skip ?_ | refine rn_true rfl ?_ | refine rn_false rfl ?_ | refine rn_exit rfl ?_ | refine pl_not rfl rfl ?_ | refine pl_val _ rfl rfl (val_load1 hT rfl rfl rfl (Blk.cell (by assumption) (by rfl))) ?_ | refine pl_yes rfl rfl rfl rfl rfl (by first | (simp only [cmpP]; omega) | (simp [cmpP]; done) | (simp [cmpP]; omega)) ?_ | refine pl_no rfl rfl rfl rfl rfl rfl (by first | (simp only [cmpP]; omega) | (simp [cmpP]; done) | (simp [cmpP]; omega)) ?_))
      exact rn_ret Tryz.func84 (.inl ⟨_, rfl, rfl⟩) ⟨by simp [h1, h2], hk0⟩
  · (repeat (first | refine pl_pure hT rfl rfl rfl ?_ | refine pl_nil ?_ | refine rn_seq ?_ | refine rn_plain ?_ | refine rn_block ?_ | refine rn_inBlock ?_ | refine rn_skip ?_ | refine rn_true rfl ?_ | refine rn_false rfl ?_ | refine rn_exit rfl ?_ | refine pl_not rfl rfl ?_ | refine pl_val _ rfl rfl (val_load1 hT rfl rfl rfl (Blk.cell (by assumption) (by rfl))) ?_ | refine pl_yes rfl rfl rfl rfl rfl (by first | (simp only [cmpP]; omega) | (simp [cmpP]; done) | (simp [cmpP]; omega)) ?_ | refine pl_no rfl rfl rfl rfl rfl rfl (by first | (simp only [cmpP]; omega) | (simp [cmpP]; done) | (simp [cmpP]; omega)) ?_))
    exact rn_ret Tryz.func84 (.inl ⟨_, rfl, rfl⟩) ⟨by simp [h1], hk0⟩
end E
end Go.Proofs.YthbkcadiejfgaacGreatDoor

/- Mathematics of a check that is handed part by part: what one look tells, and that the looks one behind the other are what chkE, chkS tell. -/
namespace Go.Proofs.YthbkcadiejfgaacGreatDoor
set_option maxRecDepth 20000
set_option maxHeartbeats 4000000
namespace E

def knownE (op : Int) : Bool := decide (0 ≤ partsOf op)
def fitsE (op n : Int) (len : Nat) : Bool := decide ((len : Int) = partsOf op) && (op == 1 || n == 0)
def namedE (op : Int) : Bool := op == 2 || op == 3
def knownS (op : Int) : Bool := decide (1 ≤ op) && decide (op ≤ 7)
def fitsS (op : Int) (e f : ET) (lb lo : Nat) : Bool := (((needE op || zeroE e) && (needF op || zeroE f)) && (needB op || (lb : Int) == 0)) && (needO op || (lo : Int) == 0)

/-- What a look tells of one part, with k parts met ahead of it. -/
def lookK (nv k : Nat) (deep : Int) (known fits named : Bool) (v : Int) : Int :=
  if deep > 12 then 4 else if k + 1 > 150 then 3 else if known = false then 2 else if fits = false then 5 else varK nv v named

theorem look_room {nv k : Nat} {deep : Int} {a b c : Bool} {v : Int} (h : lookK nv k deep a b c v = 0) : k + 1 ≤ 150 ∧ deep ≤ 12 := by
  unfold lookK at h
  split at h
  · cases h
  · split at h
    · cases h
    · omega

theorem ownE_look (nv : Nat) (op v n : Int) (len : Nat) : ownE nv op v n len = if knownE op = false then 2 else if fitsE op n len = false then 5 else varK nv v (namedE op) := by
  unfold ownE knownE fitsE namedE
  by_cases h1 : partsOf op < 0
  · have : ¬ 0 ≤ partsOf op := by omega
    simp [h1, this]
  · have h1' : 0 ≤ partsOf op := by omega
    simp only [h1, if_false, h1', decide_true, Bool.true_eq_false]
    by_cases h2 : (len : Int) = partsOf op
    · by_cases h3 : op = 1
      · simp [h2, h3]
      · by_cases h4 : n = 0
        · simp [h2, h3, h4]
        · simp [h2, h3, h4]
    · have h2' : partsOf op ≠ (len : Int) := fun h => h2 h.symm
      simp [h2, h2']
theorem ownS_look (nv : Nat) (op v : Int) (e f : ET) (lb lo : Nat) : ownS nv op v e f lb lo = if knownS op = false then 2 else if fitsS op e f lb lo = false then 5 else varK nv v (needV op) := by
  unfold ownS knownS fitsS
  by_cases h1 : op < 1 ∨ op > 7
  · rw [if_pos h1, if_pos]
    simp
    omega
  · have hk : (decide (1 ≤ op) && decide (op ≤ 7)) = true := by simp; omega
    rw [if_neg h1, hk]
    simp only [Bool.true_eq_false, if_false]
    have e1 : ((lb : Int) == 0) = !decide (0 < lb) := by rw [Bool.eq_iff_iff]; simp
    have e2 : ((lo : Int) == 0) = !decide (0 < lo) := by rw [Bool.eq_iff_iff]; simp
    rw [e1, e2]
    cases needE op <;> cases zeroE e <;> cases needF op <;> cases zeroE f <;> cases needB op <;> cases decide (0 < lb) <;> cases needO op <;> cases decide (0 < lo) <;> rfl

theorem chkE_look (nv deep k : Nat) (op v n : Int) (l : List ET) : chkE nv (.mk op v n l) deep k = if lookK nv k deep (knownE op) (fitsE op n l.length) (namedE op) v ≠ 0 then .error (lookK nv k deep (knownE op) (fitsE op n l.length) (namedE op) v) else chkEs nv l (deep + 1) (k + 1) := by
  simp only [chkE, headK, lookK]
  by_cases h1 : deep > 12
  · have h1' : (deep : Int) > 12 := by omega
    simp [h1, h1', nextK]
  · have h1' : ¬ (deep : Int) > 12 := by omega
    by_cases h2 : k + 1 > 150
    · simp only [h1, h1', h2, if_true, if_false, nextK]
      rfl
    · simp only [h1, h1', h2, if_false, nextK, ownE_look]
theorem chkS_look (nv deep k : Nat) (op v : Int) (e f : ET) (b o : List ST) : chkS nv (.mk op v e f b o) deep k = if lookK nv k deep (knownS op) (fitsS op e f b.length o.length) (needV op) v ≠ 0 then .error (lookK nv k deep (knownS op) (fitsS op e f b.length o.length) (needV op) v) else
    nextK (if needE op then chkE nv e (deep + 1) (k + 1) else .ok (k + 1)) fun k2 => nextK (if needF op then chkE nv f (deep + 1) k2 else .ok k2) fun k3 => nextK (chkSs nv b (deep + 1) k3) fun k4 => chkSs nv o (deep + 1) k4 := by
  simp only [chkS, headK, lookK]
  by_cases h1 : deep > 12
  · have h1' : (deep : Int) > 12 := by omega
    simp [h1, h1', nextK]
  · have h1' : ¬ (deep : Int) > 12 := by omega
    by_cases h2 : k + 1 > 150
    · simp only [h1, h1', h2, if_true, if_false, nextK]
      rfl
    · simp only [h1, h1', h2, if_false, nextK, ownS_look]

/-- The expressions of a statement. -/
def els (op : Int) (e f : ET) : List ET := (if needE op then [e] else []) ++ (if needF op then [f] else [])
theorem nextK_assoc (x : Except Int Nat) (f g : Nat → Except Int Nat) : nextK (nextK x f) g = nextK x fun k => nextK (f k) g := by cases x <;> rfl
theorem nextK_one (k : Nat) (f : Nat → Except Int Nat) : nextK (.ok k) f = f k := rfl
theorem nextK_id (x : Except Int Nat) : nextK x (fun k => .ok k) = x := by cases x <;> rfl
theorem chkEs_els (nv : Nat) (op : Int) (e f : ET) (d k : Nat) : chkEs nv (els op e f) d k = nextK (if needE op then chkE nv e d k else .ok k) fun k2 => if needF op then chkE nv f d k2 else .ok k2 := by
  unfold els
  cases needE op <;> cases needF op <;> simp [chkEs, nextK_one, nextK_id]
theorem chkS_parts (nv deep k : Nat) (op v : Int) (e f : ET) (b o : List ST) (h : lookK nv k deep (knownS op) (fitsS op e f b.length o.length) (needV op) v = 0) : chkS nv (.mk op v e f b o) deep k =
    nextK (chkEs nv (els op e f) (deep + 1) (k + 1)) fun k3 => nextK (chkSs nv b (deep + 1) k3) fun k4 => chkSs nv o (deep + 1) k4 := by
  rw [chkS_look, if_neg (by simp [h]), chkEs_els, nextK_assoc]

theorem chkEs_append (nv : Nat) : ∀ (a b : List ET) (d k : Nat), chkEs nv (a ++ b) d k = nextK (chkEs nv a d k) fun k1 => chkEs nv b d k1
  | [], b, d, k => by simp [chkEs, nextK]
  | t :: r, b, d, k => by
    simp only [List.cons_append, chkEs, nextK_assoc]
    congr 1
    funext k1
    exact chkEs_append nv r b d k1
theorem chkSs_append (nv : Nat) : ∀ (a b : List ST) (d k : Nat), chkSs nv (a ++ b) d k = nextK (chkSs nv a d k) fun k1 => chkSs nv b d k1
  | [], b, d, k => by simp [chkSs, nextK]
  | t :: r, b, d, k => by
    simp only [List.cons_append, chkSs, nextK_assoc]
    congr 1
    funext k1
    exact chkSs_append nv r b d k1
theorem chkEs_at {nv d k ki i : Nat} {l : List ET} {t : ET} (ht : l[i]? = some t) (h : chkEs nv (l.take i) d k = .ok ki) :
    chkEs nv (l.take (i + 1)) d k = chkE nv t d ki ∧ ∀ c, chkE nv t d ki = .error c → chkEs nv l d k = .error c := by
  obtain ⟨hlt, e⟩ := List.getElem?_eq_some_iff.1 ht
  refine ⟨?_, fun c hc => ?_⟩
  · rw [List.take_succ_eq_append_getElem hlt, chkEs_append, h, e]
    simp only [nextK, chkEs]
    exact nextK_id _
  · have : l = l.take i ++ t :: l.drop (i + 1) := by rw [← e, ← List.drop_eq_getElem_cons hlt, List.take_append_drop]
    rw [this, chkEs_append, h]
    simp only [nextK, chkEs, hc]
theorem chkSs_at {nv d k ki i : Nat} {l : List ST} {t : ST} (ht : l[i]? = some t) (h : chkSs nv (l.take i) d k = .ok ki) :
    chkSs nv (l.take (i + 1)) d k = chkS nv t d ki ∧ ∀ c, chkS nv t d ki = .error c → chkSs nv l d k = .error c := by
  obtain ⟨hlt, e⟩ := List.getElem?_eq_some_iff.1 ht
  refine ⟨?_, fun c hc => ?_⟩
  · rw [List.take_succ_eq_append_getElem hlt, chkSs_append, h, e]
    simp only [nextK, chkSs]
    exact nextK_id _
  · have : l = l.take i ++ t :: l.drop (i + 1) := by rw [← e, ← List.drop_eq_getElem_cons hlt, List.take_append_drop]
    rw [this, chkSs_append, h]
    simp only [nextK, chkSs, hc]

/-! ### No more parts than may be -/
def Lid (f : Nat → Except Int Nat) : Prop := ∀ k k', k ≤ 150 → f k = .ok k' → k' ≤ 150
mutual
theorem boundE (nv : Nat) : ∀ t d, Lid (chkE nv t d)
  | .mk op v n l, d => fun k k' hk h => by
    rw [chkE_look] at h
    split at h
    · cases h
    · rename_i hz
      have := (look_room (by simpa using hz)).1
      exact boundEs nv l (d + 1) (k + 1) k' this h
theorem boundEs (nv : Nat) : ∀ l d, Lid (chkEs nv l d)
  | [], d => fun k k' hk h => by
    simp only [chkEs] at h
    injection h with h
    omega
  | t :: r, d => fun k k' hk h => by
    simp only [chkEs] at h
    obtain ⟨k1, h1, h2⟩ := nextK_ok h
    exact boundEs nv r d k1 k' (boundE nv t d k k1 hk h1) h2
end
mutual
theorem boundS (nv : Nat) : ∀ t d, Lid (chkS nv t d)
  | .mk op v e f b o, d => fun k k' hk h => by
    by_cases hz : lookK nv k d (knownS op) (fitsS op e f b.length o.length) (needV op) v = 0
    · rw [chkS_parts _ _ _ _ _ _ _ _ _ hz] at h
      obtain ⟨k1, h1, h2⟩ := nextK_ok h
      obtain ⟨k2, h3, h4⟩ := nextK_ok h2
      have := (look_room hz).1
      exact boundSs nv o (d + 1) k2 k' (boundSs nv b (d + 1) k1 k2 (boundEs nv _ (d + 1) (k + 1) k1 this h1) h3) h4
    · rw [chkS_look, if_pos hz] at h
      cases h
theorem boundSs (nv : Nat) : ∀ l d, Lid (chkSs nv l d)
  | [], d => fun k k' hk h => by
    simp only [chkSs] at h
    injection h with h
    omega
  | t :: r, d => fun k k' hk h => by
    simp only [chkSs] at h
    obtain ⟨k1, h1, h2⟩ := nextK_ok h
    exact boundSs nv r d k1 k' (boundS nv t d k k1 hk h1) h2
end
end E
end Go.Proofs.YthbkcadiejfgaacGreatDoor

/- Contracts of exprPart, stmtPart, exprsOf: what an expression, a statement is looked at for. -/
namespace Go.Proofs.YthbkcadiejfgaacGreatDoor
set_option maxRecDepth 20000
set_option maxHeartbeats 4000000
namespace E
open Go.Proofs

def partL (deep : Int) (known fits named : Bool) (v : Int) : List Value := [.int .i64 deep, .bool known, .bool fits, .bool named, .int .i64 v]
def partZ : List Value := partL 0 false false false 0
theorem zero_part : ((Tryz.prog.info? 83).bind (·.zero)).map (·.cells) = some partZ.toArray := by kernel_rfl
theorem built_part (d : Int) (a b c : Bool) (v : Int) : Tryz.prog.built 83 [(0, .int .i64 d), (1, .bool a), (2, .bool b), (3, .bool c), (4, .int .i64 v)] = some (partL d a b c v).toArray := by kernel_rfl
theorem part_one (d : Int) (a b c : Bool) (v : Int) : ∀ u ∈ partL d a b c v, u.oneCell' = true := by
  intro u hu
  simp [partL] at hu
  rcases hu with rfl | rfl | rfl | rfl | rfl <;> rfl


theorem exprPart_ret {F : Nat → Prop} {w : World} {op v n : Int} {l : List ET} {lv : Value} (hl : ExprsV F w lv l) (deep : Int) :
    Ret Tryz.prog 85 [.agg #[.int .i64 op, .int .i64 v, .int .i64 n, lv], .int .i64 deep] w fun r w' => r = .agg (partL deep (knownE op) (fitsE op n l.length) (namedE op) v).toArray ∧ Keep [] w w' := by
  obtain ⟨a, cap, rfl⟩ := hl.form
  refine ret_of 38 Tryz.func85 rfl rfl (by simp) ?_
  (repeat (first | refine pl_pure hT rfl rfl rfl ?_ | refine pl_nil ?_ | refine rn_seq ?_ | refine rn_plain ?_ | refine rn_block ?_ | refine rn_inBlock ?_ | refine rn_skip ?_ | refine rn_true rfl ?_ | refine rn_false rfl ?_ | refine rn_exit rfl ?_ | refine pl_not rfl rfl ?_))
  refine pl_op rfl rfl (opTo_boxN [.int .i64 op, .int .i64 v, .int .i64 n, .slice a l.length cap] rfl rfl rfl ?_)
  intro w1 b hb hs1 hk1 hb1
  refine pl_op rfl rfl (opTo_allocN _ rfl zero_part ?_)
  intro w2 c hc hs2 hk2 hc2
  have hb2 := hk2.blk hb1 (by simp)
  (repeat (first | refine pl_pure hT rfl rfl rfl ?_ | refine pl_nil ?_ | refine rn_seq ?_ | refine rn_plain ?_ | refine rn_block ?_ | refine rn_inBlock ?_ | refine rn_skip ?_ | refine rn_true rfl ?_ | refine rn_false rfl ?_ | refine rn_exit rfl ?_ | refine pl_not rfl rfl ?_))
  refine rn_draw (fun w' => Keep [] w2 w' ∧ Blk w' b [.int .i64 op, .int .i64 v, .int .i64 n, .slice a l.length cap] 41) [33] hMix ?_
  have hS : Keep [] w2 w2.drew ∧ Blk w2.drew b [.int .i64 op, .int .i64 v, .int .i64 n, .slice a l.length cap] 41 := ⟨(Keep.refl _ _).drew, hb2.drew⟩
  have hkw : Keep [] w w2.drew := (hk1.tr hk2).drew
  have hc3 := hc2.drew
  have hsz : w.heap.size ≤ c := by have := hk1.size; omega
  generalize w2.drew = w3 at *
  have hlen : (l.length : Int) = partsOf op ∨ (l.length : Int) ≠ partsOf op := by omega
  have hp : op = 1 ∨ op = 2 ∨ (op ≠ 1 ∧ op ≠ 2) := by omega
  clear hk1 hk2 hb1 hc2 hb2
  rcases hp with hp | hp | hp <;> rcases hlen with hlen | hlen
  all_goals
    try (first | refine dr_pure 0 hT rfl (by decide +kernel) rfl rfl rfl ?_ | refine dr_not 0 rfl (by decide +kernel) rfl rfl ?_ | refine dr_val 0 _ rfl (by decide +kernel) rfl rfl (fun w9 hS9 => val_load1 hT rfl rfl rfl (Blk.cell hS9.2 (by rfl))) hS ?_ | refine dr_yes 0 rfl (by decide +kernel) rfl rfl rfl rfl rfl (by first | (simp only [cmpP]; omega) | (simp [cmpP]; done) | (simp [cmpP]; omega)) ?_ | refine dr_no 0 rfl (by decide +kernel) rfl rfl rfl rfl rfl rfl (by first | (simp only [cmpP]; omega) | (simp [cmpP]; done) | (simp [cmpP]; omega)) ?_)
    try (first | refine dr_pure 1 hT rfl (by decide +kernel) rfl rfl rfl ?_ | refine dr_not 1 rfl (by decide +kernel) rfl rfl ?_ | refine dr_val 1 _ rfl (by decide +kernel) rfl rfl (fun w9 hS9 => val_load1 hT rfl rfl rfl (Blk.cell hS9.2 (by rfl))) hS ?_ | refine dr_yes 1 rfl (by decide +kernel) rfl rfl rfl rfl rfl (by first | (simp only [cmpP]; omega) | (simp [cmpP]; done) | (simp [cmpP]; omega)) ?_ | refine dr_no 1 rfl (by decide +kernel) rfl rfl rfl rfl rfl rfl (by first | (simp only [cmpP]; omega) | (simp [cmpP]; done) | (simp [cmpP]; omega)) ?_)
    try (first | refine dr_pure 2 hT rfl (by decide +kernel) rfl rfl rfl ?_ | refine dr_not 2 rfl (by decide +kernel) rfl rfl ?_ | refine dr_val 2 _ rfl (by decide +kernel) rfl rfl (fun w9 hS9 => val_load1 hT rfl rfl rfl (Blk.cell hS9.2 (by rfl))) hS ?_ | refine dr_yes 2 rfl (by decide +kernel) rfl rfl rfl rfl rfl (by first | (simp only [cmpP]; omega) | (simp [cmpP]; done) | (simp [cmpP]; omega)) ?_ | refine dr_no 2 rfl (by decide +kernel) rfl rfl rfl rfl rfl rfl (by first | (simp only [cmpP]; omega) | (simp [cmpP]; done) | (simp [cmpP]; omega)) ?_)
    try (first | refine dr_pure 4 hT rfl (by decide +kernel) rfl rfl rfl ?_ | refine dr_not 4 rfl (by decide +kernel) rfl rfl ?_ | refine dr_val 4 _ rfl (by decide +kernel) rfl rfl (fun w9 hS9 => val_load1 hT rfl rfl rfl (Blk.cell hS9.2 (by rfl))) hS ?_ | refine dr_yes 4 rfl (by decide +kernel) rfl rfl rfl rfl rfl (by first | (simp only [cmpP]; omega) | (simp [cmpP]; done) | (simp [cmpP]; omega)) ?_ | refine dr_no 4 rfl (by decide +kernel) rfl rfl rfl rfl rfl rfl (by first | (simp only [cmpP]; omega) | (simp [cmpP]; done) | (simp [cmpP]; omega)) ?_)
    try (first | refine dr_pure 5 hT rfl (by decide +kernel) rfl rfl rfl ?_ | refine dr_not 5 rfl (by decide +kernel) rfl rfl ?_ | refine dr_val 5 _ rfl (by decide +kernel) rfl rfl (fun w9 hS9 => val_load1 hT rfl rfl rfl (Blk.cell hS9.2 (by rfl))) hS ?_ | refine dr_yes 5 rfl (by decide +kernel) rfl rfl rfl rfl rfl (by first | (simp only [cmpP]; omega) | (simp [cmpP]; done) | (simp [cmpP]; omega)) ?_ | refine dr_no 5 rfl (by decide +kernel) rfl rfl rfl rfl rfl rfl (by first | (simp only [cmpP]; omega) | (simp [cmpP]; done) | (simp [cmpP]; omega)) ?_)
    try (first | refine dr_pure 6 hT rfl (by decide +kernel) rfl rfl rfl ?_ | refine dr_not 6 rfl (by decide +kernel) rfl rfl ?_ | refine dr_val 6 _ rfl (by decide +kernel) rfl rfl (fun w9 hS9 => val_load1 hT rfl rfl rfl (Blk.cell hS9.2 (by rfl))) hS ?_ | refine dr_yes 6 rfl (by decide +kernel) rfl rfl rfl rfl rfl (by first | (simp only [cmpP]; omega) | (simp [cmpP]; done) | (simp [cmpP]; omega)) ?_ | refine dr_no 6 rfl (by decide +kernel) rfl rfl rfl rfl rfl rfl (by first | (simp only [cmpP]; omega) | (simp [cmpP]; done) | (simp [cmpP]; omega)) ?_)
    try (first | refine dr_pure 7 hT rfl (by decide +kernel) rfl rfl rfl ?_ | refine dr_not 7 rfl (by decide +kernel) rfl rfl ?_ | refine dr_val 7 _ rfl (by decide +kernel) rfl rfl (fun w9 hS9 => val_load1 hT rfl rfl rfl (Blk.cell hS9.2 (by rfl))) hS ?_ | refine dr_yes 7 rfl (by decide +kernel) rfl rfl rfl rfl rfl (by first | (simp only [cmpP]; omega) | (simp [cmpP]; done) | (simp [cmpP]; omega)) ?_ | refine dr_no 7 rfl (by decide +kernel) rfl rfl rfl rfl rfl rfl (by first | (simp only [cmpP]; omega) | (simp [cmpP]; done) | (simp [cmpP]; omega)) ?_)
    try (first | refine dr_pure 8 hT rfl (by decide +kernel) rfl rfl rfl ?_ | refine dr_not 8 rfl (by decide +kernel) rfl rfl ?_ | refine dr_val 8 _ rfl (by decide +kernel) rfl rfl (fun w9 hS9 => val_load1 hT rfl rfl rfl (Blk.cell hS9.2 (by rfl))) hS ?_ | refine dr_yes 8 rfl (by decide +kernel) rfl rfl rfl rfl rfl (by first | (simp only [cmpP]; omega) | (simp [cmpP]; done) | (simp [cmpP]; omega)) ?_ | refine dr_no 8 rfl (by decide +kernel) rfl rfl rfl rfl rfl rfl (by first | (simp only [cmpP]; omega) | (simp [cmpP]; done) | (simp [cmpP]; omega)) ?_)
    try (first | refine dr_pure 9 hT rfl (by decide +kernel) rfl rfl rfl ?_ | refine dr_not 9 rfl (by decide +kernel) rfl rfl ?_ | refine dr_val 9 _ rfl (by decide +kernel) rfl rfl (fun w9 hS9 => val_load1 hT rfl rfl rfl (Blk.cell hS9.2 (by rfl))) hS ?_ | refine dr_yes 9 rfl (by decide +kernel) rfl rfl rfl rfl rfl (by first | (simp only [cmpP]; omega) | (simp [cmpP]; done) | (simp [cmpP]; omega)) ?_ | refine dr_no 9 rfl (by decide +kernel) rfl rfl rfl rfl rfl rfl (by first | (simp only [cmpP]; omega) | (simp [cmpP]; done) | (simp [cmpP]; omega)) ?_)
    try (first | refine dr_pure 22 hT rfl (by decide +kernel) rfl rfl rfl ?_ | refine dr_not 22 rfl (by decide +kernel) rfl rfl ?_ | refine dr_val 22 _ rfl (by decide +kernel) rfl rfl (fun w9 hS9 => val_load1 hT rfl rfl rfl (Blk.cell hS9.2 (by rfl))) hS ?_ | refine dr_yes 22 rfl (by decide +kernel) rfl rfl rfl rfl rfl (by first | (simp only [cmpP]; omega) | (simp [cmpP]; done) | (simp [cmpP]; omega)) ?_ | refine dr_no 22 rfl (by decide +kernel) rfl rfl rfl rfl rfl rfl (by first | (simp only [cmpP]; omega) | (simp [cmpP]; done) | (simp [cmpP]; omega)) ?_)
    try (first | refine dr_pure 23 hT rfl (by decide +kernel) rfl rfl rfl ?_ | refine dr_not 23 rfl (by decide +kernel) rfl rfl ?_ | refine dr_val 23 _ rfl (by decide +kernel) rfl rfl (fun w9 hS9 => val_load1 hT rfl rfl rfl (Blk.cell hS9.2 (by rfl))) hS ?_ | refine dr_yes 23 rfl (by decide +kernel) rfl rfl rfl rfl rfl (by first | (simp only [cmpP]; omega) | (simp [cmpP]; done) | (simp [cmpP]; omega)) ?_ | refine dr_no 23 rfl (by decide +kernel) rfl rfl rfl rfl rfl rfl (by first | (simp only [cmpP]; omega) | (simp [cmpP]; done) | (simp [cmpP]; omega)) ?_)
    try (first | refine dr_pure 24 hT rfl (by decide +kernel) rfl rfl rfl ?_ | refine dr_not 24 rfl (by decide +kernel) rfl rfl ?_ | refine dr_val 24 _ rfl (by decide +kernel) rfl rfl (fun w9 hS9 => val_load1 hT rfl rfl rfl (Blk.cell hS9.2 (by rfl))) hS ?_ | refine dr_yes 24 rfl (by decide +kernel) rfl rfl rfl rfl rfl (by first | (simp only [cmpP]; omega) | (simp [cmpP]; done) | (simp [cmpP]; omega)) ?_ | refine dr_no 24 rfl (by decide +kernel) rfl rfl rfl rfl rfl rfl (by first | (simp only [cmpP]; omega) | (simp [cmpP]; done) | (simp [cmpP]; omega)) ?_)
    try (first | refine dr_pure 30 hT rfl (by decide +kernel) rfl rfl rfl ?_ | refine dr_not 30 rfl (by decide +kernel) rfl rfl ?_ | refine dr_val 30 _ rfl (by decide +kernel) rfl rfl (fun w9 hS9 => val_load1 hT rfl rfl rfl (Blk.cell hS9.2 (by rfl))) hS ?_ | refine dr_yes 30 rfl (by decide +kernel) rfl rfl rfl rfl rfl (by first | (simp only [cmpP]; omega) | (simp [cmpP]; done) | (simp [cmpP]; omega)) ?_ | refine dr_no 30 rfl (by decide +kernel) rfl rfl rfl rfl rfl rfl (by first | (simp only [cmpP]; omega) | (simp [cmpP]; done) | (simp [cmpP]; omega)) ?_)
    try (first | refine dr_pure 31 hT rfl (by decide +kernel) rfl rfl rfl ?_ | refine dr_not 31 rfl (by decide +kernel) rfl rfl ?_ | refine dr_val 31 _ rfl (by decide +kernel) rfl rfl (fun w9 hS9 => val_load1 hT rfl rfl rfl (Blk.cell hS9.2 (by rfl))) hS ?_ | refine dr_yes 31 rfl (by decide +kernel) rfl rfl rfl rfl rfl (by first | (simp only [cmpP]; omega) | (simp [cmpP]; done) | (simp [cmpP]; omega)) ?_ | refine dr_no 31 rfl (by decide +kernel) rfl rfl rfl rfl rfl rfl (by first | (simp only [cmpP]; omega) | (simp [cmpP]; done) | (simp [cmpP]; omega)) ?_)
    refine dr_op 3 rfl (by decide +kernel) rfl rfl (opTo_call rfl rfl rfl rfl (by decide +kernel) ((parts_ret op w3).mono ?_))
    rintro v4 w4 ⟨rfl, rfl⟩
    refine ⟨fun _ => hS, ?_⟩
    refine dr_any 4 _ rfl (by decide +kernel) rfl rfl (fun w => val_int _ _ _ _ rfl rfl rfl (by rfl) w) ?_
    refine dr_op 10 rfl (by decide +kernel) rfl rfl (opTo_call rfl rfl rfl rfl (by decide +kernel) ((parts_ret op _).mono ?_))
    rintro v5 w5 ⟨rfl, rfl⟩
    refine ⟨fun _ => hS, ?_⟩
    try (first | refine dr_pure 11 hT rfl (by decide +kernel) rfl rfl rfl ?_ | refine dr_not 11 rfl (by decide +kernel) rfl rfl ?_ | refine dr_val 11 _ rfl (by decide +kernel) rfl rfl (fun w9 hS9 => val_load1 hT rfl rfl rfl (Blk.cell hS9.2 (by rfl))) hS ?_ | refine dr_yes 11 rfl (by decide +kernel) rfl rfl rfl rfl rfl (by first | (simp only [cmpP]; omega) | (simp [cmpP]; done) | (simp [cmpP]; omega)) ?_ | refine dr_no 11 rfl (by decide +kernel) rfl rfl rfl rfl rfl rfl (by first | (simp only [cmpP]; omega) | (simp [cmpP]; done) | (simp [cmpP]; omega)) ?_)
    try (first | refine dr_pure 12 hT rfl (by decide +kernel) rfl rfl rfl ?_ | refine dr_not 12 rfl (by decide +kernel) rfl rfl ?_ | refine dr_val 12 _ rfl (by decide +kernel) rfl rfl (fun w9 hS9 => val_load1 hT rfl rfl rfl (Blk.cell hS9.2 (by rfl))) hS ?_ | refine dr_yes 12 rfl (by decide +kernel) rfl rfl rfl rfl rfl (by first | (simp only [cmpP]; omega) | (simp [cmpP]; done) | (simp [cmpP]; omega)) ?_ | refine dr_no 12 rfl (by decide +kernel) rfl rfl rfl rfl rfl rfl (by first | (simp only [cmpP]; omega) | (simp [cmpP]; done) | (simp [cmpP]; omega)) ?_)
    try (first | refine dr_pure 13 hT rfl (by decide +kernel) rfl rfl rfl ?_ | refine dr_not 13 rfl (by decide +kernel) rfl rfl ?_ | refine dr_val 13 _ rfl (by decide +kernel) rfl rfl (fun w9 hS9 => val_load1 hT rfl rfl rfl (Blk.cell hS9.2 (by rfl))) hS ?_ | refine dr_yes 13 rfl (by decide +kernel) rfl rfl rfl rfl rfl (by first | (simp only [cmpP]; omega) | (simp [cmpP]; done) | (simp [cmpP]; omega)) ?_ | refine dr_no 13 rfl (by decide +kernel) rfl rfl rfl rfl rfl rfl (by first | (simp only [cmpP]; omega) | (simp [cmpP]; done) | (simp [cmpP]; omega)) ?_)
    try (first | refine dr_pure 14 hT rfl (by decide +kernel) rfl rfl rfl ?_ | refine dr_not 14 rfl (by decide +kernel) rfl rfl ?_ | refine dr_val 14 _ rfl (by decide +kernel) rfl rfl (fun w9 hS9 => val_load1 hT rfl rfl rfl (Blk.cell hS9.2 (by rfl))) hS ?_ | refine dr_yes 14 rfl (by decide +kernel) rfl rfl rfl rfl rfl (by first | (simp only [cmpP]; omega) | (simp [cmpP]; done) | (simp [cmpP]; omega)) ?_ | refine dr_no 14 rfl (by decide +kernel) rfl rfl rfl rfl rfl rfl (by first | (simp only [cmpP]; omega) | (simp [cmpP]; done) | (simp [cmpP]; omega)) ?_)
    try (first | refine dr_pure 15 hT rfl (by decide +kernel) rfl rfl rfl ?_ | refine dr_not 15 rfl (by decide +kernel) rfl rfl ?_ | refine dr_val 15 _ rfl (by decide +kernel) rfl rfl (fun w9 hS9 => val_load1 hT rfl rfl rfl (Blk.cell hS9.2 (by rfl))) hS ?_ | refine dr_yes 15 rfl (by decide +kernel) rfl rfl rfl rfl rfl (by first | (simp only [cmpP]; omega) | (simp [cmpP]; done) | (simp [cmpP]; omega)) ?_ | refine dr_no 15 rfl (by decide +kernel) rfl rfl rfl rfl rfl rfl (by first | (simp only [cmpP]; omega) | (simp [cmpP]; done) | (simp [cmpP]; omega)) ?_)
    try (first | refine dr_pure 16 hT rfl (by decide +kernel) rfl rfl rfl ?_ | refine dr_not 16 rfl (by decide +kernel) rfl rfl ?_ | refine dr_val 16 _ rfl (by decide +kernel) rfl rfl (fun w9 hS9 => val_load1 hT rfl rfl rfl (Blk.cell hS9.2 (by rfl))) hS ?_ | refine dr_yes 16 rfl (by decide +kernel) rfl rfl rfl rfl rfl (by first | (simp only [cmpP]; omega) | (simp [cmpP]; done) | (simp [cmpP]; omega)) ?_ | refine dr_no 16 rfl (by decide +kernel) rfl rfl rfl rfl rfl rfl (by first | (simp only [cmpP]; omega) | (simp [cmpP]; done) | (simp [cmpP]; omega)) ?_)
    try (first | refine dr_pure 17 hT rfl (by decide +kernel) rfl rfl rfl ?_ | refine dr_not 17 rfl (by decide +kernel) rfl rfl ?_ | refine dr_val 17 _ rfl (by decide +kernel) rfl rfl (fun w9 hS9 => val_load1 hT rfl rfl rfl (Blk.cell hS9.2 (by rfl))) hS ?_ | refine dr_yes 17 rfl (by decide +kernel) rfl rfl rfl rfl rfl (by first | (simp only [cmpP]; omega) | (simp [cmpP]; done) | (simp [cmpP]; omega)) ?_ | refine dr_no 17 rfl (by decide +kernel) rfl rfl rfl rfl rfl rfl (by first | (simp only [cmpP]; omega) | (simp [cmpP]; done) | (simp [cmpP]; omega)) ?_)
    try (first | refine dr_pure 18 hT rfl (by decide +kernel) rfl rfl rfl ?_ | refine dr_not 18 rfl (by decide +kernel) rfl rfl ?_ | refine dr_val 18 _ rfl (by decide +kernel) rfl rfl (fun w9 hS9 => val_load1 hT rfl rfl rfl (Blk.cell hS9.2 (by rfl))) hS ?_ | refine dr_yes 18 rfl (by decide +kernel) rfl rfl rfl rfl rfl (by first | (simp only [cmpP]; omega) | (simp [cmpP]; done) | (simp [cmpP]; omega)) ?_ | refine dr_no 18 rfl (by decide +kernel) rfl rfl rfl rfl rfl rfl (by first | (simp only [cmpP]; omega) | (simp [cmpP]; done) | (simp [cmpP]; omega)) ?_)
    try (refine dr_any 19 _ rfl (by decide +kernel) rfl rfl (fun w => val_int _ _ _ _ rfl rfl rfl (by rfl) w) ?_)
    try (first | refine dr_pure 19 hT rfl (by decide +kernel) rfl rfl rfl ?_ | refine dr_not 19 rfl (by decide +kernel) rfl rfl ?_ | refine dr_val 19 _ rfl (by decide +kernel) rfl rfl (fun w9 hS9 => val_load1 hT rfl rfl rfl (Blk.cell hS9.2 (by rfl))) hS ?_ | refine dr_yes 19 rfl (by decide +kernel) rfl rfl rfl rfl rfl (by first | (simp only [cmpP]; omega) | (simp [cmpP]; done) | (simp [cmpP]; omega)) ?_ | refine dr_no 19 rfl (by decide +kernel) rfl rfl rfl rfl rfl rfl (by first | (simp only [cmpP]; omega) | (simp [cmpP]; done) | (simp [cmpP]; omega)) ?_)
    try (first | refine dr_pure 20 hT rfl (by decide +kernel) rfl rfl rfl ?_ | refine dr_not 20 rfl (by decide +kernel) rfl rfl ?_ | refine dr_val 20 _ rfl (by decide +kernel) rfl rfl (fun w9 hS9 => val_load1 hT rfl rfl rfl (Blk.cell hS9.2 (by rfl))) hS ?_ | refine dr_yes 20 rfl (by decide +kernel) rfl rfl rfl rfl rfl (by first | (simp only [cmpP]; omega) | (simp [cmpP]; done) | (simp [cmpP]; omega)) ?_ | refine dr_no 20 rfl (by decide +kernel) rfl rfl rfl rfl rfl rfl (by first | (simp only [cmpP]; omega) | (simp [cmpP]; done) | (simp [cmpP]; omega)) ?_)
    try (first | refine dr_pure 21 hT rfl (by decide +kernel) rfl rfl rfl ?_ | refine dr_not 21 rfl (by decide +kernel) rfl rfl ?_ | refine dr_val 21 _ rfl (by decide +kernel) rfl rfl (fun w9 hS9 => val_load1 hT rfl rfl rfl (Blk.cell hS9.2 (by rfl))) hS ?_ | refine dr_yes 21 rfl (by decide +kernel) rfl rfl rfl rfl rfl (by first | (simp only [cmpP]; omega) | (simp [cmpP]; done) | (simp [cmpP]; omega)) ?_ | refine dr_no 21 rfl (by decide +kernel) rfl rfl rfl rfl rfl rfl (by first | (simp only [cmpP]; omega) | (simp [cmpP]; done) | (simp [cmpP]; omega)) ?_)
    try (first | refine dr_pure 25 hT rfl (by decide +kernel) rfl rfl rfl ?_ | refine dr_not 25 rfl (by decide +kernel) rfl rfl ?_ | refine dr_val 25 _ rfl (by decide +kernel) rfl rfl (fun w9 hS9 => val_load1 hT rfl rfl rfl (Blk.cell hS9.2 (by rfl))) hS ?_ | refine dr_yes 25 rfl (by decide +kernel) rfl rfl rfl rfl rfl (by first | (simp only [cmpP]; omega) | (simp [cmpP]; done) | (simp [cmpP]; omega)) ?_ | refine dr_no 25 rfl (by decide +kernel) rfl rfl rfl rfl rfl rfl (by first | (simp only [cmpP]; omega) | (simp [cmpP]; done) | (simp [cmpP]; omega)) ?_)
    try (first | refine dr_pure 26 hT rfl (by decide +kernel) rfl rfl rfl ?_ | refine dr_not 26 rfl (by decide +kernel) rfl rfl ?_ | refine dr_val 26 _ rfl (by decide +kernel) rfl rfl (fun w9 hS9 => val_load1 hT rfl rfl rfl (Blk.cell hS9.2 (by rfl))) hS ?_ | refine dr_yes 26 rfl (by decide +kernel) rfl rfl rfl rfl rfl (by first | (simp only [cmpP]; omega) | (simp [cmpP]; done) | (simp [cmpP]; omega)) ?_ | refine dr_no 26 rfl (by decide +kernel) rfl rfl rfl rfl rfl rfl (by first | (simp only [cmpP]; omega) | (simp [cmpP]; done) | (simp [cmpP]; omega)) ?_)
    try (first | refine dr_pure 27 hT rfl (by decide +kernel) rfl rfl rfl ?_ | refine dr_not 27 rfl (by decide +kernel) rfl rfl ?_ | refine dr_val 27 _ rfl (by decide +kernel) rfl rfl (fun w9 hS9 => val_load1 hT rfl rfl rfl (Blk.cell hS9.2 (by rfl))) hS ?_ | refine dr_yes 27 rfl (by decide +kernel) rfl rfl rfl rfl rfl (by first | (simp only [cmpP]; omega) | (simp [cmpP]; done) | (simp [cmpP]; omega)) ?_ | refine dr_no 27 rfl (by decide +kernel) rfl rfl rfl rfl rfl rfl (by first | (simp only [cmpP]; omega) | (simp [cmpP]; done) | (simp [cmpP]; omega)) ?_)
    try (refine dr_any 28 _ rfl (by decide +kernel) rfl rfl (fun w => val_int _ _ _ _ rfl rfl rfl (by rfl) w) ?_)
    try (first | refine dr_pure 28 hT rfl (by decide +kernel) rfl rfl rfl ?_ | refine dr_not 28 rfl (by decide +kernel) rfl rfl ?_ | refine dr_val 28 _ rfl (by decide +kernel) rfl rfl (fun w9 hS9 => val_load1 hT rfl rfl rfl (Blk.cell hS9.2 (by rfl))) hS ?_ | refine dr_yes 28 rfl (by decide +kernel) rfl rfl rfl rfl rfl (by first | (simp only [cmpP]; omega) | (simp [cmpP]; done) | (simp [cmpP]; omega)) ?_ | refine dr_no 28 rfl (by decide +kernel) rfl rfl rfl rfl rfl rfl (by first | (simp only [cmpP]; omega) | (simp [cmpP]; done) | (simp [cmpP]; omega)) ?_)
    try (first | refine dr_pure 29 hT rfl (by decide +kernel) rfl rfl rfl ?_ | refine dr_not 29 rfl (by decide +kernel) rfl rfl ?_ | refine dr_val 29 _ rfl (by decide +kernel) rfl rfl (fun w9 hS9 => val_load1 hT rfl rfl rfl (Blk.cell hS9.2 (by rfl))) hS ?_ | refine dr_yes 29 rfl (by decide +kernel) rfl rfl rfl rfl rfl (by first | (simp only [cmpP]; omega) | (simp [cmpP]; done) | (simp [cmpP]; omega)) ?_ | refine dr_no 29 rfl (by decide +kernel) rfl rfl rfl rfl rfl rfl (by first | (simp only [cmpP]; omega) | (simp [cmpP]; done) | (simp [cmpP]; omega)) ?_)
    refine dr_any 32 _ rfl (by decide +kernel) rfl rfl (fun w => val_build _ rfl rfl (built_part _ _ _ _ _) w) ?_
    refine dr_op 33 rfl (by decide +kernel) rfl rfl (opTo_storeN _ rfl rfl rfl rfl (by kernel_rfl) hc3 (by simp [partL, partZ]) (part_one _ _ _ _ _) ?_)
    intro w6 hs6 hk6 hc6
    refine ⟨fun h => absurd h (by simp), ?_⟩
    refine dr_done (by decide +kernel) ?_
    rw [splice_whole (by rfl)] at hc6
    refine rn_ret Tryz.func85 (.inr (.inr (.inl ⟨_, _, _, rfl, rfl, blk_loadVar hT hc6 rfl⟩))) ⟨?_, hkw.trB hk6 hsz⟩
    congr 2
    first
      | (subst hp; simp [partL, knownE, fitsE, namedE, hlen]; done)
      | (simp [partL, knownE, fitsE, namedE, hp, hlen]; done)
end E
end Go.Proofs.YthbkcadiejfgaacGreatDoor

/- Contract of stmtPart: what a statement is looked at for. -/
namespace Go.Proofs.YthbkcadiejfgaacGreatDoor
set_option maxRecDepth 20000
set_option maxHeartbeats 4000000
namespace E
open Go.Proofs


theorem stmtPart_ret {F : Nat → Prop} {w : World} {op v : Int} {e f : ET} {lb lo : List ST} {ce cf : List Value} {bv ov : Value} (hF : In F w) (he : ExprV F w ce e) (hf : ExprV F w cf f) (hb : StmtsV F w bv lb) (ho : StmtsV F w ov lo) (deep : Int) :
    Ret Tryz.prog 68 [.agg (scells op v ce cf bv ov).toArray, .int .i64 deep] w fun r w' => r = .agg (partL deep (knownS op) (fitsS op e f lb.length lo.length) (needV op) v).toArray ∧ Keep [] w w' := by
  obtain ⟨e0, e1, e2, e3, rfl⟩ := list4 he.length
  obtain ⟨f0, f1, f2, f3, rfl⟩ := list4 hf.length
  obtain ⟨ab, capb, rfl⟩ := hb.form
  obtain ⟨ao, capo, rfl⟩ := ho.form
  refine ret_of 64 Tryz.func68 rfl rfl (by simp) ?_
  (repeat (first | refine pl_pure hT rfl rfl rfl ?_ | refine pl_nil ?_ | refine rn_seq ?_ | refine rn_plain ?_ | refine rn_block ?_ | refine rn_inBlock ?_ | refine rn_skip ?_ | refine rn_true rfl ?_ | refine rn_false rfl ?_ | refine rn_exit rfl ?_ | refine pl_not rfl rfl ?_))
  refine pl_op rfl rfl (opTo_boxN [.int .i64 op, .int .i64 v, e0, e1, e2, e3, f0, f1, f2, f3, .slice ab lb.length capb, .slice ao lo.length capo] rfl rfl rfl ?_)
  intro w1 b hb0 hs1 hk1 hb1
  refine pl_op rfl rfl (opTo_allocN _ rfl zero_part ?_)
  intro w2 c hc hs2 hk2 hc2
  have hb2 := hk2.blk hb1 (by simp)
  (repeat (first | refine pl_pure hT rfl rfl rfl ?_ | refine pl_nil ?_ | refine rn_seq ?_ | refine rn_plain ?_ | refine rn_block ?_ | refine rn_inBlock ?_ | refine rn_skip ?_ | refine rn_true rfl ?_ | refine rn_false rfl ?_ | refine rn_exit rfl ?_ | refine pl_not rfl rfl ?_))
  refine pl_val _ rfl rfl (val_load1 hT rfl rfl rfl (hb2.cell rfl)) ?_
  obtain ⟨be, hbe⟩ : ∃ x, x = needE op := ⟨_, rfl⟩
  obtain ⟨bf, hbf⟩ : ∃ x, x = needF op := ⟨_, rfl⟩
  obtain ⟨bb, hbb⟩ : ∃ x, x = needB op := ⟨_, rfl⟩
  obtain ⟨bo, hbo⟩ : ∃ x, x = needO op := ⟨_, rfl⟩
  have hfit : fitsS op e f lb.length lo.length = ((((be || zeroE e) && (bf || zeroE f)) && (bb || (lb.length : Int) == 0)) && (bo || (lo.length : Int) == 0)) := by rw [hbe, hbf, hbb, hbo]; rfl
  have hR := has_ret op w2
  simp only [hasV, ← hbe, ← hbf, ← hbb, ← hbo] at hR
  refine pl_op rfl rfl (opTo_call rfl rfl rfl rfl (by decide +kernel) (hR.mono ?_))
  rintro v3 w3 ⟨rfl, rfl⟩
  (repeat (first | refine pl_pure hT rfl rfl rfl ?_ | refine pl_nil ?_ | refine rn_seq ?_ | refine rn_plain ?_ | refine rn_block ?_ | refine rn_inBlock ?_ | refine rn_skip ?_ | refine rn_true rfl ?_ | refine rn_false rfl ?_ | refine rn_exit rfl ?_ | refine pl_not rfl rfl ?_))
  refine rn_draw (fun w' => Keep [] w3 w' ∧ Blk w' b [.int .i64 op, .int .i64 v, e0, e1, e2, e3, f0, f1, f2, f3, .slice ab lb.length capb, .slice ao lo.length capo] 43) [45] hMix ?_
  have hS : Keep [] w3 w3.drew ∧ Blk w3.drew b [.int .i64 op, .int .i64 v, e0, e1, e2, e3, f0, f1, f2, f3, .slice ab lb.length capb, .slice ao lo.length capo] 43 := ⟨(Keep.refl _ _).drew, hb2.drew⟩
  have hkw : Keep [] w w3 := hk1.tr hk2
  have hsz : w.heap.size ≤ c := by have := hk1.size; omega
  have he3 := he.keep hkw hF.stays
  have hf3 := hf.keep hkw hF.stays
  have hF3 := hF.keep hkw
  generalize w3.drew = w4 at *
  clear hk1 hk2 hb1 hb2 hR hbe hbf hbb hbo
  rw [hfit]
  clear hfit
  refine dr_with 2 17592186044415 (fun σ' w' => ∃ kn x : Bool, kn = knownS op ∧ x = ((((be || zeroE e) && (bf || zeroE f)) && (bb || (lb.length : Int) == 0)) && (bo || (lo.length : Int) == 0)) ∧ (Keep [] w3 w' ∧ Blk w' b [.int .i64 op, .int .i64 v, e0, e1, e2, e3, f0, f1, f2, f3, .slice ab lb.length capb, .slice ao lo.length capo] 43) ∧ Sub ([(2, .pointer (some ⟨b, 0, none⟩)), (4, .pointer (some ⟨c, 0, none⟩)), (6, .bool bf), (8, .bool bb), (9, .bool bo), (19, .int .i64 deep), (27, .bool kn), (60, .bool (needV op)), (62, .int .i64 v), (59, .bool x)]) σ') ?_ ?_
  · rintro σ' w5 ⟨kn, x, rfl, hx, hS, hsub⟩
    refine dr_sub hsub ?_
    subst hx
    refine dr_any 44 _ rfl (by decide +kernel) rfl rfl (fun w => val_build _ rfl rfl (built_part _ _ _ _ _) w) ?_
    refine dr_op 45 rfl (by decide +kernel) rfl rfl (opTo_storeN _ rfl rfl rfl rfl (by kernel_rfl) (hS.1.blk hc2 (by simp)) (by simp [partL, partZ]) (part_one _ _ _ _ _) ?_)
    intro w6 hs6 hk6 hc6
    refine ⟨fun h => absurd h (by simp), ?_⟩
    refine dr_done (by decide +kernel) ?_
    rw [splice_whole (by rfl)] at hc6
    exact rn_ret Tryz.func68 (.inr (.inr (.inl ⟨_, _, _, rfl, rfl, blk_loadVar hT hc6 rfl⟩))) ⟨rfl, (hkw.tr hS.1).trB hk6 hsz⟩
  intro fin4
  refine dr_with 10 15401752723455 (fun σ' w' => ∃ kn x : Bool, kn = knownS op ∧ x = (((be || zeroE e) && (bf || zeroE f)) && (bb || (lb.length : Int) == 0)) ∧ (Keep [] w3 w' ∧ Blk w' b [.int .i64 op, .int .i64 v, e0, e1, e2, e3, f0, f1, f2, f3, .slice ab lb.length capb, .slice ao lo.length capo] 43) ∧ Sub ([(2, .pointer (some ⟨b, 0, none⟩)), (4, .pointer (some ⟨c, 0, none⟩)), (6, .bool bf), (8, .bool bb), (9, .bool bo), (19, .int .i64 deep), (27, .bool kn), (60, .bool (needV op)), (62, .int .i64 v), (51, .bool x)]) σ') ?_ ?_
  · rintro σ' w5 ⟨kn, x, rfl, hx, hS, hsub⟩
    refine dr_sub hsub ?_
    cases x with
    | false =>
      refine dr_not 33 rfl (by decide +kernel) rfl rfl ?_
      refine dr_not 34 rfl (by decide +kernel) rfl rfl ?_
      refine dr_not 35 rfl (by decide +kernel) rfl rfl ?_
      refine dr_not 36 rfl (by decide +kernel) rfl rfl ?_
      refine dr_not 37 rfl (by decide +kernel) rfl rfl ?_
      refine dr_not 38 rfl (by decide +kernel) rfl rfl ?_
      refine dr_not 39 rfl (by decide +kernel) rfl rfl ?_
      refine dr_pure 40 hT rfl (by decide +kernel) rfl rfl rfl ?_
      exact fin4 _ _ ⟨_, _, rfl, by simp [← hx], hS, rfl, rfl, rfl, rfl, rfl, rfl, rfl, rfl, rfl, rfl, trivial⟩
    | true =>
      refine dr_pure 33 hT rfl (by decide +kernel) rfl rfl rfl ?_
      refine dr_pure 34 hT rfl (by decide +kernel) rfl rfl rfl ?_
      cases bo with
      | true =>
        refine dr_not 35 rfl (by decide +kernel) rfl rfl ?_
        refine dr_not 36 rfl (by decide +kernel) rfl rfl ?_
        refine dr_not 37 rfl (by decide +kernel) rfl rfl ?_
        refine dr_not 38 rfl (by decide +kernel) rfl rfl ?_
        refine dr_pure 39 hT rfl (by decide +kernel) rfl rfl rfl ?_
        refine dr_pure 40 hT rfl (by decide +kernel) rfl rfl rfl ?_
        exact fin4 _ _ ⟨_, _, rfl, by simp [← hx], hS, rfl, rfl, rfl, rfl, rfl, rfl, rfl, rfl, rfl, rfl, trivial⟩
      | false =>
        refine dr_pure 35 hT rfl (by decide +kernel) rfl rfl rfl ?_
        refine dr_val 36 _ rfl (by decide +kernel) rfl rfl (fun w9 hS9 => val_load1 hT rfl rfl rfl (Blk.cell hS9.2 (by rfl))) hS ?_
        refine dr_pure 37 hT rfl (by decide +kernel) rfl rfl rfl ?_
        refine dr_any 38 _ rfl (by decide +kernel) rfl rfl (fun w => val_int _ _ _ _ rfl rfl rfl (by rfl) w) ?_
        refine dr_pure 39 hT rfl (by decide +kernel) rfl rfl rfl ?_
        refine dr_pure 40 hT rfl (by decide +kernel) rfl rfl rfl ?_
        exact fin4 _ _ ⟨_, _, rfl, by simp [← hx], hS, rfl, rfl, rfl, rfl, rfl, rfl, rfl, rfl, rfl, rfl, trivial⟩
  intro fin3
  clear fin4
  refine dr_with 19 15393179566079 (fun σ' w' => ∃ kn x : Bool, kn = knownS op ∧ x = ((be || zeroE e) && (bf || zeroE f)) ∧ (Keep [] w3 w' ∧ Blk w' b [.int .i64 op, .int .i64 v, e0, e1, e2, e3, f0, f1, f2, f3, .slice ab lb.length capb, .slice ao lo.length capo] 43) ∧ Sub ([(2, .pointer (some ⟨b, 0, none⟩)), (4, .pointer (some ⟨c, 0, none⟩)), (6, .bool bf), (8, .bool bb), (9, .bool bo), (19, .int .i64 deep), (27, .bool kn), (60, .bool (needV op)), (62, .int .i64 v), (42, .bool x)]) σ') ?_ ?_
  · rintro σ' w5 ⟨kn, x, rfl, hx, hS, hsub⟩
    refine dr_sub hsub ?_
    cases x with
    | false =>
      refine dr_not 24 rfl (by decide +kernel) rfl rfl ?_
      refine dr_not 25 rfl (by decide +kernel) rfl rfl ?_
      refine dr_not 26 rfl (by decide +kernel) rfl rfl ?_
      refine dr_not 27 rfl (by decide +kernel) rfl rfl ?_
      refine dr_not 28 rfl (by decide +kernel) rfl rfl ?_
      refine dr_not 29 rfl (by decide +kernel) rfl rfl ?_
      refine dr_not 30 rfl (by decide +kernel) rfl rfl ?_
      refine dr_pure 31 hT rfl (by decide +kernel) rfl rfl rfl ?_
      refine dr_pure 32 hT rfl (by decide +kernel) rfl rfl rfl ?_
      exact fin3 _ _ ⟨_, _, rfl, by simp [← hx], hS, rfl, rfl, rfl, rfl, rfl, rfl, rfl, rfl, rfl, rfl, trivial⟩
    | true =>
      refine dr_pure 24 hT rfl (by decide +kernel) rfl rfl rfl ?_
      refine dr_pure 25 hT rfl (by decide +kernel) rfl rfl rfl ?_
      cases bb with
      | true =>
        refine dr_not 26 rfl (by decide +kernel) rfl rfl ?_
        refine dr_not 27 rfl (by decide +kernel) rfl rfl ?_
        refine dr_not 28 rfl (by decide +kernel) rfl rfl ?_
        refine dr_not 29 rfl (by decide +kernel) rfl rfl ?_
        refine dr_pure 30 hT rfl (by decide +kernel) rfl rfl rfl ?_
        refine dr_pure 31 hT rfl (by decide +kernel) rfl rfl rfl ?_
        refine dr_pure 32 hT rfl (by decide +kernel) rfl rfl rfl ?_
        exact fin3 _ _ ⟨_, _, rfl, by simp [← hx], hS, rfl, rfl, rfl, rfl, rfl, rfl, rfl, rfl, rfl, rfl, trivial⟩
      | false =>
        refine dr_pure 26 hT rfl (by decide +kernel) rfl rfl rfl ?_
        refine dr_val 27 _ rfl (by decide +kernel) rfl rfl (fun w9 hS9 => val_load1 hT rfl rfl rfl (Blk.cell hS9.2 (by rfl))) hS ?_
        refine dr_pure 28 hT rfl (by decide +kernel) rfl rfl rfl ?_
        refine dr_any 29 _ rfl (by decide +kernel) rfl rfl (fun w => val_int _ _ _ _ rfl rfl rfl (by rfl) w) ?_
        refine dr_pure 30 hT rfl (by decide +kernel) rfl rfl rfl ?_
        refine dr_pure 31 hT rfl (by decide +kernel) rfl rfl rfl ?_
        refine dr_pure 32 hT rfl (by decide +kernel) rfl rfl rfl ?_
        exact fin3 _ _ ⟨_, _, rfl, by simp [← hx], hS, rfl, rfl, rfl, rfl, rfl, rfl, rfl, rfl, rfl, rfl, trivial⟩
  intro fin2
  clear fin3
  refine dr_with 27 15393162854399 (fun σ' w' => ∃ kn x : Bool, kn = knownS op ∧ x = (be || zeroE e) ∧ (Keep [] w3 w' ∧ Blk w' b [.int .i64 op, .int .i64 v, e0, e1, e2, e3, f0, f1, f2, f3, .slice ab lb.length capb, .slice ao lo.length capo] 43) ∧ Sub ([(2, .pointer (some ⟨b, 0, none⟩)), (4, .pointer (some ⟨c, 0, none⟩)), (6, .bool bf), (8, .bool bb), (9, .bool bo), (19, .int .i64 deep), (27, .bool kn), (60, .bool (needV op)), (62, .int .i64 v), (34, .bool x)]) σ') ?_ ?_
  · rintro σ' w5 ⟨kn, x, rfl, hx, hS, hsub⟩
    refine dr_sub hsub ?_
    cases x with
    | false =>
      refine dr_not 16 rfl (by decide +kernel) rfl rfl ?_
      refine dr_not 17 rfl (by decide +kernel) rfl rfl ?_
      refine dr_not 18 rfl (by decide +kernel) rfl rfl ?_
      refine dr_not 19 rfl (by decide +kernel) rfl rfl ?_
      refine dr_not 20 rfl (by decide +kernel) rfl rfl ?_
      refine dr_not 21 rfl (by decide +kernel) rfl rfl ?_
      refine dr_pure 22 hT rfl (by decide +kernel) rfl rfl rfl ?_
      refine dr_pure 23 hT rfl (by decide +kernel) rfl rfl rfl ?_
      exact fin2 _ _ ⟨_, _, rfl, by simp [← hx], hS, rfl, rfl, rfl, rfl, rfl, rfl, rfl, rfl, rfl, rfl, trivial⟩
    | true =>
      refine dr_pure 16 hT rfl (by decide +kernel) rfl rfl rfl ?_
      refine dr_pure 17 hT rfl (by decide +kernel) rfl rfl rfl ?_
      cases bf with
      | true =>
        refine dr_not 18 rfl (by decide +kernel) rfl rfl ?_
        refine dr_not 19 rfl (by decide +kernel) rfl rfl ?_
        refine dr_not 20 rfl (by decide +kernel) rfl rfl ?_
        refine dr_pure 21 hT rfl (by decide +kernel) rfl rfl rfl ?_
        refine dr_pure 22 hT rfl (by decide +kernel) rfl rfl rfl ?_
        refine dr_pure 23 hT rfl (by decide +kernel) rfl rfl rfl ?_
        exact fin2 _ _ ⟨_, _, rfl, by simp [← hx], hS, rfl, rfl, rfl, rfl, rfl, rfl, rfl, rfl, rfl, rfl, trivial⟩
      | false =>
        refine dr_pure 18 hT rfl (by decide +kernel) rfl rfl rfl ?_
        refine dr_val 19 _ rfl (by decide +kernel) rfl rfl (fun w9 hS9 => val_load [f0, f1, f2, f3] hT rfl rfl rfl (Blk.range hS9.2 (by rfl))) hS ?_
        refine dr_op 20 rfl (by decide +kernel) rfl rfl (opTo_call rfl rfl rfl rfl (by decide +kernel) ((isZero_ret (hf3.keep hS.1 hF3.stays)).mono ?_))
        rintro v6 w6 ⟨rfl, hk6⟩
        replace hS := And.intro (hS.1.tr hk6) (hk6.blk hS.2 (by simp))
        refine ⟨fun _ => hS, ?_⟩
        refine dr_pure 21 hT rfl (by decide +kernel) rfl rfl rfl ?_
        refine dr_pure 22 hT rfl (by decide +kernel) rfl rfl rfl ?_
        refine dr_pure 23 hT rfl (by decide +kernel) rfl rfl rfl ?_
        exact fin2 _ _ ⟨_, _, rfl, by simp [← hx], hS, rfl, rfl, rfl, rfl, rfl, rfl, rfl, rfl, rfl, rfl, trivial⟩
  intro fin1
  clear fin2
  refine dr_with 34 15393162789375 (fun σ' w' => ∃ kn x : Bool, kn = knownS op ∧ x = (true) ∧ (Keep [] w3 w' ∧ Blk w' b [.int .i64 op, .int .i64 v, e0, e1, e2, e3, f0, f1, f2, f3, .slice ab lb.length capb, .slice ao lo.length capo] 43) ∧ Sub ([(2, .pointer (some ⟨b, 0, none⟩)), (4, .pointer (some ⟨c, 0, none⟩)), (6, .bool bf), (8, .bool bb), (9, .bool bo), (19, .int .i64 deep), (27, .bool kn), (60, .bool (needV op)), (62, .int .i64 v), (5, .bool be)]) σ') ?_ ?_
  · rintro σ' w5 ⟨kn, x, rfl, hx, hS, hsub⟩
    refine dr_sub hsub ?_
    refine dr_pure 9 hT rfl (by decide +kernel) rfl rfl rfl ?_
    refine dr_pure 10 hT rfl (by decide +kernel) rfl rfl rfl ?_
    cases be with
    | true =>
      refine dr_not 11 rfl (by decide +kernel) rfl rfl ?_
      refine dr_not 12 rfl (by decide +kernel) rfl rfl ?_
      refine dr_not 13 rfl (by decide +kernel) rfl rfl ?_
      refine dr_pure 14 hT rfl (by decide +kernel) rfl rfl rfl ?_
      refine dr_pure 15 hT rfl (by decide +kernel) rfl rfl rfl ?_
      exact fin1 _ _ ⟨_, _, rfl, rfl, hS, rfl, rfl, rfl, rfl, rfl, rfl, rfl, rfl, rfl, rfl, trivial⟩
    | false =>
      refine dr_pure 11 hT rfl (by decide +kernel) rfl rfl rfl ?_
      refine dr_val 12 _ rfl (by decide +kernel) rfl rfl (fun w9 hS9 => val_load [e0, e1, e2, e3] hT rfl rfl rfl (Blk.range hS9.2 (by rfl))) hS ?_
      refine dr_op 13 rfl (by decide +kernel) rfl rfl (opTo_call rfl rfl rfl rfl (by decide +kernel) ((isZero_ret (he3.keep hS.1 hF3.stays)).mono ?_))
      rintro v6 w6 ⟨rfl, hk6⟩
      replace hS := And.intro (hS.1.tr hk6) (hk6.blk hS.2 (by simp))
      refine ⟨fun _ => hS, ?_⟩
      refine dr_pure 14 hT rfl (by decide +kernel) rfl rfl rfl ?_
      refine dr_pure 15 hT rfl (by decide +kernel) rfl rfl rfl ?_
      exact fin1 _ _ ⟨_, _, rfl, rfl, hS, rfl, rfl, rfl, rfl, rfl, rfl, rfl, rfl, rfl, rfl, trivial⟩
  intro fin0
  clear fin1
  refine dr_pure 0 hT rfl (by decide +kernel) rfl rfl rfl ?_
  refine dr_pure 1 hT rfl (by decide +kernel) rfl rfl rfl ?_
  refine dr_val 2 _ rfl (by decide +kernel) rfl rfl (fun w9 hS9 => val_load1 hT rfl rfl rfl (Blk.cell hS9.2 (by rfl))) hS ?_
  refine dr_pure 41 hT rfl (by decide +kernel) rfl rfl rfl ?_
  refine dr_pure 42 hT rfl (by decide +kernel) rfl rfl rfl ?_
  refine dr_val 43 _ rfl (by decide +kernel) rfl rfl (fun w9 hS9 => val_load1 hT rfl rfl rfl (Blk.cell hS9.2 (by rfl))) hS ?_
  by_cases h1 : op ≥ 1
  · refine dr_yes 3 rfl (by decide +kernel) rfl rfl rfl rfl rfl (by first | (simp only [cmpP]; omega) | (simp [cmpP]; done) | (simp [cmpP]; omega)) ?_
    refine dr_pure 4 hT rfl (by decide +kernel) rfl rfl rfl ?_
    refine dr_pure 5 hT rfl (by decide +kernel) rfl rfl rfl ?_
    refine dr_val 6 _ rfl (by decide +kernel) rfl rfl (fun w9 hS9 => val_load1 hT rfl rfl rfl (Blk.cell hS9.2 (by rfl))) hS ?_
    refine dr_any 7 _ rfl (by decide +kernel) rfl rfl (fun w => val_int _ _ _ _ rfl rfl rfl (by rfl) w) ?_
    refine dr_pure 8 hT rfl (by decide +kernel) rfl rfl rfl ?_
    exact fin0 _ _ ⟨_, true, by simp [knownS]; omega, rfl, hS, rfl, rfl, rfl, rfl, rfl, rfl, rfl, rfl, rfl, rfl, trivial⟩
  · refine dr_no 3 rfl (by decide +kernel) rfl rfl rfl rfl rfl rfl (by first | (simp only [cmpP]; omega) | (simp [cmpP]; done) | (simp [cmpP]; omega)) ?_
    refine dr_pure 4 hT rfl (by decide +kernel) rfl rfl rfl ?_
    refine dr_not 5 rfl (by decide +kernel) rfl rfl ?_
    refine dr_not 6 rfl (by decide +kernel) rfl rfl ?_
    refine dr_not 7 rfl (by decide +kernel) rfl rfl ?_
    refine dr_pure 8 hT rfl (by decide +kernel) rfl rfl rfl ?_
    exact fin0 _ _ ⟨_, true, by simp [knownS]; omega, rfl, hS, rfl, rfl, rfl, rfl, rfl, rfl, rfl, rfl, rfl, rfl, trivial⟩
end E
end Go.Proofs.YthbkcadiejfgaacGreatDoor
