/- Several texts in one: CoC, CoC2, CoD. -/
import Derived.Test.YthbkcadiejfgaacGreatDoorJ07
/- Contracts of exprPart, stmtPart, exprsOf: what an expression, a statement is looked at for. -/
namespace Go.Proofs.YthbkcadiejfgaacGreatDoor
set_option maxRecDepth 20000
set_option maxHeartbeats 4000000
namespace E
open Go.Proofs

def partL (deep : Int) (known fits named : Bool) (v : Int) : List Value := [.int .i64 deep, .bool known, .bool fits, .bool named, .int .i64 v]
def partZ : List Value := partL 0 false false false 0
theorem zero_part : ((Tryz.prog.info? 83).bind (·.zero)).map (·.cells) = some partZ.toArray := by kernel_rfl
theorem built_part (d : Int) (a b c : Bool) (v : Int) : Tryz.prog.built 83 [(0, .int .i64 d), (1, .bool a), (2, .bool b), (3, .bool c), (4, .int .i64 v)] = some (partL d a b c v).toArray := by kernel_rfl
theorem part_one (d : Int) (a b c : Bool) (v : Int) : ∀ u ∈ partL d a b c v, u.oneCell' = true := by
  intro u hu
  simp [partL] at hu
  rcases hu with rfl | rfl | rfl | rfl | rfl <;> rfl


theorem exprPart_ret {F : Nat → Prop} {w : World} {op v n : Int} {l : List ET} {lv : Value} (hl : ExprsV F w lv l) (deep : Int) :
    Ret Tryz.prog 85 [.agg #[.int .i64 op, .int .i64 v, .int .i64 n, lv], .int .i64 deep] w fun r w' => r = .agg (partL deep (knownE op) (fitsE op n l.length) (namedE op) v).toArray ∧ Keep [] w w' := by
  obtain ⟨a, cap, rfl⟩ := hl.form
  refine ret_of 38 Tryz.func85 rfl rfl (by simp) ?_
  (repeat (first | refine pl_pure hT rfl rfl rfl ?_ | refine pl_nil ?_ | refine rn_seq ?_ | refine rn_plain ?_ | refine rn_block ?_ | refine rn_inBlock ?_ | refine rn_skip ?_ | refine rn_true rfl ?_ | refine rn_false rfl ?_ | refine rn_exit rfl ?_ | refine pl_not rfl rfl ?_))
  refine pl_op rfl rfl (opTo_boxN [.int .i64 op, .int .i64 v, .int .i64 n, .slice a l.length cap] rfl rfl rfl ?_)
  intro w1 b hb hs1 hk1 hb1
  refine pl_op rfl rfl (opTo_allocN _ rfl zero_part ?_)
  intro w2 c hc hs2 hk2 hc2
  have hb2 := hk2.blk hb1 (by simp)
  (repeat (first | refine pl_pure hT rfl rfl rfl ?_ | refine pl_nil ?_ | refine rn_seq ?_ | refine rn_plain ?_ | refine rn_block ?_ | refine rn_inBlock ?_ | refine rn_skip ?_ | refine rn_true rfl ?_ | refine rn_false rfl ?_ | refine rn_exit rfl ?_ | refine pl_not rfl rfl ?_))
  refine rn_draw (fun w' => Keep [] w2 w' ∧ Blk w' b [.int .i64 op, .int .i64 v, .int .i64 n, .slice a l.length cap] 41) [33] hMix ?_
  have hS : Keep [] w2 w2.drew ∧ Blk w2.drew b [.int .i64 op, .int .i64 v, .int .i64 n, .slice a l.length cap] 41 := ⟨(Keep.refl _ _).drew, hb2.drew⟩
  have hkw : Keep [] w w2.drew := (hk1.tr hk2).drew
  have hc3 := hc2.drew
  have hsz : w.heap.size ≤ c := by have := hk1.size; omega
  generalize w2.drew = w3 at *
  have hlen : (l.length : Int) = partsOf op ∨ (l.length : Int) ≠ partsOf op := by omega
  have hp : op = 1 ∨ op = 2 ∨ (op ≠ 1 ∧ op ≠ 2) := by omega
  clear hk1 hk2 hb1 hc2 hb2
  rcases hp with hp | hp | hp <;> rcases hlen with hlen | hlen
  all_goals
    try (first | refine dr_pure 0 hT rfl (by decide +kernel) rfl rfl rfl ?_ | refine dr_not 0 rfl (by decide +kernel) rfl rfl ?_ | refine dr_val 0 _ rfl (by decide +kernel) rfl rfl (fun w9 hS9 => val_load1 hT rfl rfl rfl (Blk.cell hS9.2 (by rfl))) hS ?_ | refine dr_yes 0 rfl (by decide +kernel) rfl rfl rfl rfl rfl (by first | (simp only [cmpP]; omega) | (simp [cmpP]; done) | (simp [cmpP]; omega)) ?_ | refine dr_no 0 rfl (by decide +kernel) rfl rfl rfl rfl rfl rfl (by first | (simp only [cmpP]; omega) | (simp [cmpP]; done) | (simp [cmpP]; omega)) ?_)
    try (first | refine dr_pure 1 hT rfl (by decide +kernel) rfl rfl rfl ?_ | refine dr_not 1 rfl (by decide +kernel) rfl rfl ?_ | refine dr_val 1 _ rfl (by decide +kernel) rfl rfl (fun w9 hS9 => val_load1 hT rfl rfl rfl (Blk.cell hS9.2 (by rfl))) hS ?_ | refine dr_yes 1 rfl (by decide +kernel) rfl rfl rfl rfl rfl (by first | (simp only [cmpP]; omega) | (simp [cmpP]; done) | (simp [cmpP]; omega)) ?_ | refine dr_no 1 rfl (by decide +kernel) rfl rfl rfl rfl rfl rfl (by first | (simp only [cmpP]; omega) | (simp [cmpP]; done) | (simp [cmpP]; omega)) ?_)
    try (first | refine dr_pure 2 hT rfl (by decide +kernel) rfl rfl rfl ?_ | refine dr_not 2 rfl (by decide +kernel) rfl rfl ?_ | refine dr_val 2 _ rfl (by decide +kernel) rfl rfl (fun w9 hS9 => val_load1 hT rfl rfl rfl (Blk.cell hS9.2 (by rfl))) hS ?_ | refine dr_yes 2 rfl (by decide +kernel) rfl rfl rfl rfl rfl (by first | (simp only [cmpP]; omega) | (simp [cmpP]; done) | (simp [cmpP]; omega)) ?_ | refine dr_no 2 rfl (by decide +kernel) rfl rfl rfl rfl rfl rfl (by first | (simp only [cmpP]; omega) | (simp [cmpP]; done) | (simp [cmpP]; omega)) ?_)
    try (first | refine dr_pure 4 hT rfl (by decide +kernel) rfl rfl rfl ?_ | refine dr_not 4 rfl (by decide +kernel) rfl rfl ?_ | refine dr_val 4 _ rfl (by decide +kernel) rfl rfl (fun w9 hS9 => val_load1 hT rfl rfl rfl (Blk.cell hS9.2 (by rfl))) hS ?_ | refine dr_yes 4 rfl (by decide +kernel) rfl rfl rfl rfl rfl (by first | (simp only [cmpP]; omega) | (simp [cmpP]; done) | (simp [cmpP]; omega)) ?_ | refine dr_no 4 rfl (by decide +kernel) rfl rfl rfl rfl rfl rfl (by first | (simp only [cmpP]; omega) | (simp [cmpP]; done) | (simp [cmpP]; omega)) ?_)
    try (first | refine dr_pure 5 hT rfl (by decide +kernel) rfl rfl rfl ?_ | refine dr_not 5 rfl (by decide +kernel) rfl rfl ?_ | refine dr_val 5 _ rfl (by decide +kernel) rfl rfl (fun w9 hS9 => val_load1 hT rfl rfl rfl (Blk.cell hS9.2 (by rfl))) hS ?_ | refine dr_yes 5 rfl (by decide +kernel) rfl rfl rfl rfl rfl (by first | (simp only [cmpP]; omega) | (simp [cmpP]; done) | (simp [cmpP]; omega)) ?_ | refine dr_no 5 rfl (by decide +kernel) rfl rfl rfl rfl rfl rfl (by first | (simp only [cmpP]; omega) | (simp [cmpP]; done) | (simp [cmpP]; omega)) ?_)
    try (first | refine dr_pure 6 hT rfl (by decide +kernel) rfl rfl rfl ?_ | refine dr_not 6 rfl (by decide +kernel) rfl rfl ?_ | refine dr_val 6 _ rfl (by decide +kernel) rfl rfl (fun w9 hS9 => val_load1 hT rfl rfl rfl (Blk.cell hS9.2 (by rfl))) hS ?_ | refine dr_yes 6 rfl (by decide +kernel) rfl rfl rfl rfl rfl (by first | (simp only [cmpP]; omega) | (simp [cmpP]; done) | (simp [cmpP]; omega)) ?_ | refine dr_no 6 rfl (by decide +kernel) rfl rfl rfl rfl rfl rfl (by first | (simp only [cmpP]; omega) | (simp [cmpP]; done) | (simp [cmpP]; omega)) ?_)
    try (first | refine dr_pure 7 hT rfl (by decide +kernel) rfl rfl rfl ?_ | refine dr_not 7 rfl (by decide +kernel) rfl rfl ?_ | refine dr_val 7 _ rfl (by decide +kernel) rfl rfl (fun w9 hS9 => val_load1 hT rfl rfl rfl (Blk.cell hS9.2 (by rfl))) hS ?_ | refine dr_yes 7 rfl (by decide +kernel) rfl rfl rfl rfl rfl (by first | (simp only [cmpP]; omega) | (simp [cmpP]; done) | (simp [cmpP]; omega)) ?_ | refine dr_no 7 rfl (by decide +kernel) rfl rfl rfl rfl rfl rfl (by first | (simp only [cmpP]; omega) | (simp [cmpP]; done) | (simp [cmpP]; omega)) ?_)
    try (first | refine dr_pure 8 hT rfl (by decide +kernel) rfl rfl rfl ?_ | refine dr_not 8 rfl (by decide +kernel) rfl rfl ?_ | refine dr_val 8 _ rfl (by decide +kernel) rfl rfl (fun w9 hS9 => val_load1 hT rfl rfl rfl (Blk.cell hS9.2 (by rfl))) hS ?_ | refine dr_yes 8 rfl (by decide +kernel) rfl rfl rfl rfl rfl (by first | (simp only [cmpP]; omega) | (simp [cmpP]; done) | (simp [cmpP]; omega)) ?_ | refine dr_no 8 rfl (by decide +kernel) rfl rfl rfl rfl rfl rfl (by first | (simp only [cmpP]; omega) | (simp [cmpP]; done) | (simp [cmpP]; omega)) ?_)
    try (first | refine dr_pure 9 hT rfl (by decide +kernel) rfl rfl rfl ?_ | refine dr_not 9 rfl (by decide +kernel) rfl rfl ?_ | refine dr_val 9 _ rfl (by decide +kernel) rfl rfl (fun w9 hS9 => val_load1 hT rfl rfl rfl (Blk.cell hS9.2 (by rfl))) hS ?_ | refine dr_yes 9 rfl (by decide +kernel) rfl rfl rfl rfl rfl (by first | (simp only [cmpP]; omega) | (simp [cmpP]; done) | (simp [cmpP]; omega)) ?_ | refine dr_no 9 rfl (by decide +kernel) rfl rfl rfl rfl rfl rfl (by first | (simp only [cmpP]; omega) | (simp [cmpP]; done) | (simp [cmpP]; omega)) ?_)
    try (first | refine dr_pure 22 hT rfl (by decide +kernel) rfl rfl rfl ?_ | refine dr_not 22 rfl (by decide +kernel) rfl rfl ?_ | refine dr_val 22 _ rfl (by decide +kernel) rfl rfl (fun w9 hS9 => val_load1 hT rfl rfl rfl (Blk.cell hS9.2 (by rfl))) hS ?_ | refine dr_yes 22 rfl (by decide +kernel) rfl rfl rfl rfl rfl (by first | (simp only [cmpP]; omega) | (simp [cmpP]; done) | (simp [cmpP]; omega)) ?_ | refine dr_no 22 rfl (by decide +kernel) rfl rfl rfl rfl rfl rfl (by first | (simp only [cmpP]; omega) | (simp [cmpP]; done) | (simp [cmpP]; omega)) ?_)
    try (first | refine dr_pure 23 hT rfl (by decide +kernel) rfl rfl rfl ?_ | refine dr_not 23 rfl (by decide +kernel) rfl rfl ?_ | refine dr_val 23 _ rfl (by decide +kernel) rfl rfl (fun w9 hS9 => val_load1 hT rfl rfl rfl (Blk.cell hS9.2 (by rfl))) hS ?_ | refine dr_yes 23 rfl (by decide +kernel) rfl rfl rfl rfl rfl (by first | (simp only [cmpP]; omega) | (simp [cmpP]; done) | (simp [cmpP]; omega)) ?_ | refine dr_no 23 rfl (by decide +kernel) rfl rfl rfl rfl rfl rfl (by first | (simp only [cmpP]; omega) | (simp [cmpP]; done) | (simp [cmpP]; omega)) ?_)
    try (first | refine dr_pure 24 hT rfl (by decide +kernel) rfl rfl rfl ?_ | refine dr_not 24 rfl (by decide +kernel) rfl rfl ?_ | refine dr_val 24 _ rfl (by decide +kernel) rfl rfl (fun w9 hS9 => val_load1 hT rfl rfl rfl (Blk.cell hS9.2 (by rfl))) hS ?_ | refine dr_yes 24 rfl (by decide +kernel) rfl rfl rfl rfl rfl (by first | (simp only [cmpP]; omega) | (simp [cmpP]; done) | (simp [cmpP]; omega)) ?_ | refine dr_no 24 rfl (by decide +kernel) rfl rfl rfl rfl rfl rfl (by first | (simp only [cmpP]; omega) | (simp [cmpP]; done) | (simp [cmpP]; omega)) ?_)
    try (first | refine dr_pure 30 hT rfl (by decide +kernel) rfl rfl rfl ?_ | refine dr_not 30 rfl (by decide +kernel) rfl rfl ?_ | refine dr_val 30 _ rfl (by decide +kernel) rfl rfl (fun w9 hS9 => val_load1 hT rfl rfl rfl (Blk.cell hS9.2 (by rfl))) hS ?_ | refine dr_yes 30 rfl (by decide +kernel) rfl rfl rfl rfl rfl (by first | (simp only [cmpP]; omega) | (simp [cmpP]; done) | (simp [cmpP]; omega)) ?_ | refine dr_no 30 rfl (by decide +kernel) rfl rfl rfl rfl rfl rfl (by first | (simp only [cmpP]; omega) | (simp [cmpP]; done) | (simp [cmpP]; omega)) ?_)
    try (first | refine dr_pure 31 hT rfl (by decide +kernel) rfl rfl rfl ?_ | refine dr_not 31 rfl (by decide +kernel) rfl rfl ?_ | refine dr_val 31 _ rfl (by decide +kernel) rfl rfl (fun w9 hS9 => val_load1 hT rfl rfl rfl (Blk.cell hS9.2 (by rfl))) hS ?_ | refine dr_yes 31 rfl (by decide +kernel) rfl rfl rfl rfl rfl (by first | (simp only [cmpP]; omega) | (simp [cmpP]; done) | (simp [cmpP]; omega)) ?_ | refine dr_no 31 rfl (by decide +kernel) rfl rfl rfl rfl rfl rfl (by first | (simp only [cmpP]; omega) | (simp [cmpP]; done) | (simp [cmpP]; omega)) ?_)
    refine dr_op 3 rfl (by decide +kernel) rfl rfl (opTo_call rfl rfl rfl rfl (by decide +kernel) ((parts_ret op w3).mono ?_))
    rintro v4 w4 ⟨rfl, rfl⟩
    refine ⟨fun _ => hS, ?_⟩
    refine dr_any 4 _ rfl (by decide +kernel) rfl rfl (fun w => val_int _ _ _ _ rfl rfl rfl (by rfl) w) ?_
    refine dr_op 10 rfl (by decide +kernel) rfl rfl (opTo_call rfl rfl rfl rfl (by decide +kernel) ((parts_ret op _).mono ?_))
    rintro v5 w5 ⟨rfl, rfl⟩
    refine ⟨fun _ => hS, ?_⟩
    try (first | refine dr_pure 11 hT rfl (by decide +kernel) rfl rfl rfl ?_ | refine dr_not 11 rfl (by decide +kernel) rfl rfl ?_ | refine dr_val 11 _ rfl (by decide +kernel) rfl rfl (fun w9 hS9 => val_load1 hT rfl rfl rfl (Blk.cell hS9.2 (by rfl))) hS ?_ | refine dr_yes 11 rfl (by decide +kernel) rfl rfl rfl rfl rfl (by first | (simp only [cmpP]; omega) | (simp [cmpP]; done) | (simp [cmpP]; omega)) ?_ | refine dr_no 11 rfl (by decide +kernel) rfl rfl rfl rfl rfl rfl (by first | (simp only [cmpP]; omega) | (simp [cmpP]; done) | (simp [cmpP]; omega)) ?_)
    try (first | refine dr_pure 12 hT rfl (by decide +kernel) rfl rfl rfl ?_ | refine dr_not 12 rfl (by decide +kernel) rfl rfl ?_ | refine dr_val 12 _ rfl (by decide +kernel) rfl rfl (fun w9 hS9 => val_load1 hT rfl rfl rfl (Blk.cell hS9.2 (by rfl))) hS ?_ | refine dr_yes 12 rfl (by decide +kernel) rfl rfl rfl rfl rfl (by first | (simp only [cmpP]; omega) | (simp [cmpP]; done) | (simp [cmpP]; omega)) ?_ | refine dr_no 12 rfl (by decide +kernel) rfl rfl rfl rfl rfl rfl (by first | (simp only [cmpP]; omega) | (simp [cmpP]; done) | (simp [cmpP]; omega)) ?_)
    try (first | refine dr_pure 13 hT rfl (by decide +kernel) rfl rfl rfl ?_ | refine dr_not 13 rfl (by decide +kernel) rfl rfl ?_ | refine dr_val 13 _ rfl (by decide +kernel) rfl rfl (fun w9 hS9 => val_load1 hT rfl rfl rfl (Blk.cell hS9.2 (by rfl))) hS ?_ | refine dr_yes 13 rfl (by decide +kernel) rfl rfl rfl rfl rfl (by first | (simp only [cmpP]; omega) | (simp [cmpP]; done) | (simp [cmpP]; omega)) ?_ | refine dr_no 13 rfl (by decide +kernel) rfl rfl rfl rfl rfl rfl (by first | (simp only [cmpP]; omega) | (simp [cmpP]; done) | (simp [cmpP]; omega)) ?_)
    try (first | refine dr_pure 14 hT rfl (by decide +kernel) rfl rfl rfl ?_ | refine dr_not 14 rfl (by decide +kernel) rfl rfl ?_ | refine dr_val 14 _ rfl (by decide +kernel) rfl rfl (fun w9 hS9 => val_load1 hT rfl rfl rfl (Blk.cell hS9.2 (by rfl))) hS ?_ | refine dr_yes 14 rfl (by decide +kernel) rfl rfl rfl rfl rfl (by first | (simp only [cmpP]; omega) | (simp [cmpP]; done) | (simp [cmpP]; omega)) ?_ | refine dr_no 14 rfl (by decide +kernel) rfl rfl rfl rfl rfl rfl (by first | (simp only [cmpP]; omega) | (simp [cmpP]; done) | (simp [cmpP]; omega)) ?_)
    try (first | refine dr_pure 15 hT rfl (by decide +kernel) rfl rfl rfl ?_ | refine dr_not 15 rfl (by decide +kernel) rfl rfl ?_ | refine dr_val 15 _ rfl (by decide +kernel) rfl rfl (fun w9 hS9 => val_load1 hT rfl rfl rfl (Blk.cell hS9.2 (by rfl))) hS ?_ | refine dr_yes 15 rfl (by decide +kernel) rfl rfl rfl rfl rfl (by first | (simp only [cmpP]; omega) | (simp [cmpP]; done) | (simp [cmpP]; omega)) ?_ | refine dr_no 15 rfl (by decide +kernel) rfl rfl rfl rfl rfl rfl (by first | (simp only [cmpP]; omega) | (simp [cmpP]; done) | (simp [cmpP]; omega)) ?_)
    try (first | refine dr_pure 16 hT rfl (by decide +kernel) rfl rfl rfl ?_ | refine dr_not 16 rfl (by decide +kernel) rfl rfl ?_ | refine dr_val 16 _ rfl (by decide +kernel) rfl rfl (fun w9 hS9 => val_load1 hT rfl rfl rfl (Blk.cell hS9.2 (by rfl))) hS ?_ | refine dr_yes 16 rfl (by decide +kernel) rfl rfl rfl rfl rfl (by first | (simp only [cmpP]; omega) | (simp [cmpP]; done) | (simp [cmpP]; omega)) ?_ | refine dr_no 16 rfl (by decide +kernel) rfl rfl rfl rfl rfl rfl (by first | (simp only [cmpP]; omega) | (simp [cmpP]; done) | (simp [cmpP]; omega)) ?_)
    try (first | refine dr_pure 17 hT rfl (by decide +kernel) rfl rfl rfl ?_ | refine dr_not 17 rfl (by decide +kernel) rfl rfl ?_ | refine dr_val 17 _ rfl (by decide +kernel) rfl rfl (fun w9 hS9 => val_load1 hT rfl rfl rfl (Blk.cell hS9.2 (by rfl))) hS ?_ | refine dr_yes 17 rfl (by decide +kernel) rfl rfl rfl rfl rfl (by first | (simp only [cmpP]; omega) | (simp [cmpP]; done) | (simp [cmpP]; omega)) ?_ | refine dr_no 17 rfl (by decide +kernel) rfl rfl rfl rfl rfl rfl (by first | (simp only [cmpP]; omega) | (simp [cmpP]; done) | (simp [cmpP]; omega)) ?_)
    try (first | refine dr_pure 18 hT rfl (by decide +kernel) rfl rfl rfl ?_ | refine dr_not 18 rfl (by decide +kernel) rfl rfl ?_ | refine dr_val 18 _ rfl (by decide +kernel) rfl rfl (fun w9 hS9 => val_load1 hT rfl rfl rfl (Blk.cell hS9.2 (by rfl))) hS ?_ | refine dr_yes 18 rfl (by decide +kernel) rfl rfl rfl rfl rfl (by first | (simp only [cmpP]; omega) | (simp [cmpP]; done) | (simp [cmpP]; omega)) ?_ | refine dr_no 18 rfl (by decide +kernel) rfl rfl rfl rfl rfl rfl (by first | (simp only [cmpP]; omega) | (simp [cmpP]; done) | (simp [cmpP]; omega)) ?_)
    try (refine dr_any 19 _ rfl (by decide +kernel) rfl rfl (fun w => val_int _ _ _ _ rfl rfl rfl (by rfl) w) ?_)
    try (first | refine dr_pure 19 hT rfl (by decide +kernel) rfl rfl rfl ?_ | refine dr_not 19 rfl (by decide +kernel) rfl rfl ?_ | refine dr_val 19 _ rfl (by decide +kernel) rfl rfl (fun w9 hS9 => val_load1 hT rfl rfl rfl (Blk.cell hS9.2 (by rfl))) hS ?_ | refine dr_yes 19 rfl (by decide +kernel) rfl rfl rfl rfl rfl (by first | (simp only [cmpP]; omega) | (simp [cmpP]; done) | (simp [cmpP]; omega)) ?_ | refine dr_no 19 rfl (by decide +kernel) rfl rfl rfl rfl rfl rfl (by first | (simp only [cmpP]; omega) | (simp [cmpP]; done) | (simp [cmpP]; omega)) ?_)
    try (first | refine dr_pure 20 hT rfl (by decide +kernel) rfl rfl rfl ?_ | refine dr_not 20 rfl (by decide +kernel) rfl rfl ?_ | refine dr_val 20 _ rfl (by decide +kernel) rfl rfl (fun w9 hS9 => val_load1 hT rfl rfl rfl (Blk.cell hS9.2 (by rfl))) hS ?_ | refine dr_yes 20 rfl (by decide +kernel) rfl rfl rfl rfl rfl (by first | (simp only [cmpP]; omega) | (simp [cmpP]; done) | (simp [cmpP]; omega)) ?_ | refine dr_no 20 rfl (by decide +kernel) rfl rfl rfl rfl rfl rfl (by first | (simp only [cmpP]; omega) | (simp [cmpP]; done) | (simp [cmpP]; omega)) ?_)
    try (first | refine dr_pure 21 hT rfl (by decide +kernel) rfl rfl rfl ?_ | refine dr_not 21 rfl (by decide +kernel) rfl rfl ?_ | refine dr_val 21 _ rfl (by decide +kernel) rfl rfl (fun w9 hS9 => val_load1 hT rfl rfl rfl (Blk.cell hS9.2 (by rfl))) hS ?_ | refine dr_yes 21 rfl (by decide +kernel) rfl rfl rfl rfl rfl (by first | (simp only [cmpP]; omega) | (simp [cmpP]; done) | (simp [cmpP]; omega)) ?_ | refine dr_no 21 rfl (by decide +kernel) rfl rfl rfl rfl rfl rfl (by first | (simp only [cmpP]; omega) | (simp [cmpP]; done) | (simp [cmpP]; omega)) ?_)
    try (first | refine dr_pure 25 hT rfl (by decide +kernel) rfl rfl rfl ?_ | refine dr_not 25 rfl (by decide +kernel) rfl rfl ?_ | refine dr_val 25 _ rfl (by decide +kernel) rfl rfl (fun w9 hS9 => val_load1 hT rfl rfl rfl (Blk.cell hS9.2 (by rfl))) hS ?_ | refine dr_yes 25 rfl (by decide +kernel) rfl rfl rfl rfl rfl (by first | (simp only [cmpP]; omega) | (simp [cmpP]; done) | (simp [cmpP]; omega)) ?_ | refine dr_no 25 rfl (by decide +kernel) rfl rfl rfl rfl rfl rfl (by first | (simp only [cmpP]; omega) | (simp [cmpP]; done) | (simp [cmpP]; omega)) ?_)
    try (first | refine dr_pure 26 hT rfl (by decide +kernel) rfl rfl rfl ?_ | refine dr_not 26 rfl (by decide +kernel) rfl rfl ?_ | refine dr_val 26 _ rfl (by decide +kernel) rfl rfl (fun w9 hS9 => val_load1 hT rfl rfl rfl (Blk.cell hS9.2 (by rfl))) hS ?_ | refine dr_yes 26 rfl (by decide +kernel) rfl rfl rfl rfl rfl (by first | (simp only [cmpP]; omega) | (simp [cmpP]; done) | (simp [cmpP]; omega)) ?_ | refine dr_no 26 rfl (by decide +kernel) rfl rfl rfl rfl rfl rfl (by first | (simp only [cmpP]; omega) | (simp [cmpP]; done) | (simp [cmpP]; omega)) ?_)
    try (first | refine dr_pure 27 hT rfl (by decide +kernel) rfl rfl rfl ?_ | refine dr_not 27 rfl (by decide +kernel) rfl rfl ?_ | refine dr_val 27 _ rfl (by decide +kernel) rfl rfl (fun w9 hS9 => val_load1 hT rfl rfl rfl (Blk.cell hS9.2 (by rfl))) hS ?_ | refine dr_yes 27 rfl (by decide +kernel) rfl rfl rfl rfl rfl (by first | (simp only [cmpP]; omega) | (simp [cmpP]; done) | (simp [cmpP]; omega)) ?_ | refine dr_no 27 rfl (by decide +kernel) rfl rfl rfl rfl rfl rfl (by first | (simp only [cmpP]; omega) | (simp [cmpP]; done) | (simp [cmpP]; omega)) ?_)
    try (refine dr_any 28 _ rfl (by decide +kernel) rfl rfl (fun w => val_int _ _ _ _ rfl rfl rfl (by rfl) w) ?_)
    try (first | refine dr_pure 28 hT rfl (by decide +kernel) rfl rfl rfl ?_ | refine dr_not 28 rfl (by decide +kernel) rfl rfl ?_ | refine dr_val 28 _ rfl (by decide +kernel) rfl rfl (fun w9 hS9 => val_load1 hT rfl rfl rfl (Blk.cell hS9.2 (by rfl))) hS ?_ | refine dr_yes 28 rfl (by decide +kernel) rfl rfl rfl rfl rfl (by first | (simp only [cmpP]; omega) | (simp [cmpP]; done) | (simp [cmpP]; omega)) ?_ | refine dr_no 28 rfl (by decide +kernel) rfl rfl rfl rfl rfl rfl (by first | (simp only [cmpP]; omega) | (simp [cmpP]; done) | (simp [cmpP]; omega)) ?_)
    try (first | refine dr_pure 29 hT rfl (by decide +kernel) rfl rfl rfl ?_ | refine dr_not 29 rfl (by decide +kernel) rfl rfl ?_ | refine dr_val 29 _ rfl (by decide +kernel) rfl rfl (fun w9 hS9 => val_load1 hT rfl rfl rfl (Blk.cell hS9.2 (by rfl))) hS ?_ | refine dr_yes 29 rfl (by decide +kernel) rfl rfl rfl rfl rfl (by first | (simp only [cmpP]; omega) | (simp [cmpP]; done) | (simp [cmpP]; omega)) ?_ | refine dr_no 29 rfl (by decide +kernel) rfl rfl rfl rfl rfl rfl (by first | (simp only [cmpP]; omega) | (simp [cmpP]; done) | (simp [cmpP]; omega)) ?_)
    refine dr_any 32 _ rfl (by decide +kernel) rfl rfl (fun w => val_build _ rfl rfl (built_part _ _ _ _ _) w) ?_
    refine dr_op 33 rfl (by decide +kernel) rfl rfl (opTo_storeN _ rfl rfl rfl rfl (by kernel_rfl) hc3 (by simp [partL, partZ]) (part_one _ _ _ _ _) ?_)
    intro w6 hs6 hk6 hc6
    refine ⟨fun h => absurd h (by simp), ?_⟩
    refine dr_done (by decide +kernel) ?_
    rw [splice_whole (by rfl)] at hc6
    refine rn_ret Tryz.func85 (.inr (.inr (.inl ⟨_, _, _, rfl, rfl, blk_loadVar hT hc6 rfl⟩))) ⟨?_, hkw.trB hk6 hsz⟩
    congr 2
    first
      | (subst hp; simp [partL, knownE, fitsE, namedE, hlen]; done)
      | (simp [partL, knownE, fitsE, namedE, hp, hlen]; done)
end E
end Go.Proofs.YthbkcadiejfgaacGreatDoor

/- Contract of stmtPart: what a statement is looked at for. -/
namespace Go.Proofs.YthbkcadiejfgaacGreatDoor
set_option maxRecDepth 20000
set_option maxHeartbeats 4000000
namespace E
open Go.Proofs


theorem stmtPart_ret {F : Nat → Prop} {w : World} {op v : Int} {e f : ET} {lb lo : List ST} {ce cf : List Value} {bv ov : Value} (hF : In F w) (he : ExprV F w ce e) (hf : ExprV F w cf f) (hb : StmtsV F w bv lb) (ho : StmtsV F w ov lo) (deep : Int) :
    Ret Tryz.prog 68 [.agg (scells op v ce cf bv ov).toArray, .int .i64 deep] w fun r w' => r = .agg (partL deep (knownS op) (fitsS op e f lb.length lo.length) (needV op) v).toArray ∧ Keep [] w w' := by
  obtain ⟨e0, e1, e2, e3, rfl⟩ := list4 he.length
  obtain ⟨f0, f1, f2, f3, rfl⟩ := list4 hf.length
  obtain ⟨ab, capb, rfl⟩ := hb.form
  obtain ⟨ao, capo, rfl⟩ := ho.form
  refine ret_of 64 Tryz.func68 rfl rfl (by simp) ?_
  (repeat (first | refine pl_pure hT rfl rfl rfl ?_ | refine pl_nil ?_ | refine rn_seq ?_ | refine rn_plain ?_ | refine rn_block ?_ | refine rn_inBlock ?_ | refine rn_skip ?_ | refine rn_true rfl ?_ | refine rn_false rfl ?_ | refine rn_exit rfl ?_ | refine pl_not rfl rfl ?_))
  refine pl_op rfl rfl (opTo_boxN [.int .i64 op, .int .i64 v, e0, e1, e2, e3, f0, f1, f2, f3, .slice ab lb.length capb, .slice ao lo.length capo] rfl rfl rfl ?_)
  intro w1 b hb0 hs1 hk1 hb1
  refine pl_op rfl rfl (opTo_allocN _ rfl zero_part ?_)
  intro w2 c hc hs2 hk2 hc2
  have hb2 := hk2.blk hb1 (by simp)
  (repeat (first | refine pl_pure hT rfl rfl rfl ?_ | refine pl_nil ?_ | refine rn_seq ?_ | refine rn_plain ?_ | refine rn_block ?_ | refine rn_inBlock ?_ | refine rn_skip ?_ | refine rn_true rfl ?_ | refine rn_false rfl ?_ | refine rn_exit rfl ?_ | refine pl_not rfl rfl ?_))
  refine pl_val _ rfl rfl (val_load1 hT rfl rfl rfl (hb2.cell rfl)) ?_
  obtain ⟨be, hbe⟩ : ∃ x, x = needE op := ⟨_, rfl⟩
  obtain ⟨bf, hbf⟩ : ∃ x, x = needF op := ⟨_, rfl⟩
  obtain ⟨bb, hbb⟩ : ∃ x, x = needB op := ⟨_, rfl⟩
  obtain ⟨bo, hbo⟩ : ∃ x, x = needO op := ⟨_, rfl⟩
  have hfit : fitsS op e f lb.length lo.length = ((((be || zeroE e) && (bf || zeroE f)) && (bb || (lb.length : Int) == 0)) && (bo || (lo.length : Int) == 0)) := by rw [hbe, hbf, hbb, hbo]; rfl
  have hR := has_ret op w2
  simp only [hasV, ← hbe, ← hbf, ← hbb, ← hbo] at hR
  refine pl_op rfl rfl (opTo_call rfl rfl rfl rfl (by decide +kernel) (hR.mono ?_))
  rintro v3 w3 ⟨rfl, rfl⟩
  (repeat (first | refine pl_pure hT rfl rfl rfl ?_ | refine pl_nil ?_ | refine rn_seq ?_ | refine rn_plain ?_ | refine rn_block ?_ | refine rn_inBlock ?_ | refine rn_skip ?_ | refine rn_true rfl ?_ | refine rn_false rfl ?_ | refine rn_exit rfl ?_ | refine pl_not rfl rfl ?_))
  refine rn_draw (fun w' => Keep [] w3 w' ∧ Blk w' b [.int .i64 op, .int .i64 v, e0, e1, e2, e3, f0, f1, f2, f3, .slice ab lb.length capb, .slice ao lo.length capo] 43) [45] hMix ?_
  have hS : Keep [] w3 w3.drew ∧ Blk w3.drew b [.int .i64 op, .int .i64 v, e0, e1, e2, e3, f0, f1, f2, f3, .slice ab lb.length capb, .slice ao lo.length capo] 43 := ⟨(Keep.refl _ _).drew, hb2.drew⟩
  have hkw : Keep [] w w3 := hk1.tr hk2
  have hsz : w.heap.size ≤ c := by have := hk1.size; omega
  have he3 := he.keep hkw hF.stays
  have hf3 := hf.keep hkw hF.stays
  have hF3 := hF.keep hkw
  generalize w3.drew = w4 at *
  clear hk1 hk2 hb1 hb2 hR hbe hbf hbb hbo
  rw [hfit]
  clear hfit
  refine dr_with 2 17592186044415 (fun σ' w' => ∃ kn x : Bool, kn = knownS op ∧ x = ((((be || zeroE e) && (bf || zeroE f)) && (bb || (lb.length : Int) == 0)) && (bo || (lo.length : Int) == 0)) ∧ (Keep [] w3 w' ∧ Blk w' b [.int .i64 op, .int .i64 v, e0, e1, e2, e3, f0, f1, f2, f3, .slice ab lb.length capb, .slice ao lo.length capo] 43) ∧ Sub ([(2, .pointer (some ⟨b, 0, none⟩)), (4, .pointer (some ⟨c, 0, none⟩)), (6, .bool bf), (8, .bool bb), (9, .bool bo), (19, .int .i64 deep), (27, .bool kn), (60, .bool (needV op)), (62, .int .i64 v), (59, .bool x)]) σ') ?_ ?_
  · rintro σ' w5 ⟨kn, x, rfl, hx, hS, hsub⟩
    refine dr_sub hsub ?_
    subst hx
    refine dr_any 44 _ rfl (by decide +kernel) rfl rfl (fun w => val_build _ rfl rfl (built_part _ _ _ _ _) w) ?_
    refine dr_op 45 rfl (by decide +kernel) rfl rfl (opTo_storeN _ rfl rfl rfl rfl (by kernel_rfl) (hS.1.blk hc2 (by simp)) (by simp [partL, partZ]) (part_one _ _ _ _ _) ?_)
    intro w6 hs6 hk6 hc6
    refine ⟨fun h => absurd h (by simp), ?_⟩
    refine dr_done (by decide +kernel) ?_
    rw [splice_whole (by rfl)] at hc6
    exact rn_ret Tryz.func68 (.inr (.inr (.inl ⟨_, _, _, rfl, rfl, blk_loadVar hT hc6 rfl⟩))) ⟨rfl, (hkw.tr hS.1).trB hk6 hsz⟩
  intro fin4
  refine dr_with 10 15401752723455 (fun σ' w' => ∃ kn x : Bool, kn = knownS op ∧ x = (((be || zeroE e) && (bf || zeroE f)) && (bb || (lb.length : Int) == 0)) ∧ (Keep [] w3 w' ∧ Blk w' b [.int .i64 op, .int .i64 v, e0, e1, e2, e3, f0, f1, f2, f3, .slice ab lb.length capb, .slice ao lo.length capo] 43) ∧ Sub ([(2, .pointer (some ⟨b, 0, none⟩)), (4, .pointer (some ⟨c, 0, none⟩)), (6, .bool bf), (8, .bool bb), (9, .bool bo), (19, .int .i64 deep), (27, .bool kn), (60, .bool (needV op)), (62, .int .i64 v), (51, .bool x)]) σ') ?_ ?_
  · rintro σ' w5 ⟨kn, x, rfl, hx, hS, hsub⟩
    refine dr_sub hsub ?_
    cases x with
    | false =>
      refine dr_not 33 rfl (by decide +kernel) rfl rfl ?_
      refine dr_not 34 rfl (by decide +kernel) rfl rfl ?_
      refine dr_not 35 rfl (by decide +kernel) rfl rfl ?_
      refine dr_not 36 rfl (by decide +kernel) rfl rfl ?_
      refine dr_not 37 rfl (by decide +kernel) rfl rfl ?_
      refine dr_not 38 rfl (by decide +kernel) rfl rfl ?_
      refine dr_not 39 rfl (by decide +kernel) rfl rfl ?_
      refine dr_pure 40 hT rfl (by decide +kernel) rfl rfl rfl ?_
      exact fin4 _ _ ⟨_, _, rfl, by simp [← hx], hS, rfl, rfl, rfl, rfl, rfl, rfl, rfl, rfl, rfl, rfl, trivial⟩
    | true =>
      refine dr_pure 33 hT rfl (by decide +kernel) rfl rfl rfl ?_
      refine dr_pure 34 hT rfl (by decide +kernel) rfl rfl rfl ?_
      cases bo with
      | true =>
        refine dr_not 35 rfl (by decide +kernel) rfl rfl ?_
        refine dr_not 36 rfl (by decide +kernel) rfl rfl ?_
        refine dr_not 37 rfl (by decide +kernel) rfl rfl ?_
        refine dr_not 38 rfl (by decide +kernel) rfl rfl ?_
        refine dr_pure 39 hT rfl (by decide +kernel) rfl rfl rfl ?_
        refine dr_pure 40 hT rfl (by decide +kernel) rfl rfl rfl ?_
        exact fin4 _ _ ⟨_, _, rfl, by simp [← hx], hS, rfl, rfl, rfl, rfl, rfl, rfl, rfl, rfl, rfl, rfl, trivial⟩
      | false =>
        refine dr_pure 35 hT rfl (by decide +kernel) rfl rfl rfl ?_
        refine dr_val 36 _ rfl (by decide +kernel) rfl rfl (fun w9 hS9 => val_load1 hT rfl rfl rfl (Blk.cell hS9.2 (by rfl))) hS ?_
        refine dr_pure 37 hT rfl (by decide +kernel) rfl rfl rfl ?_
        refine dr_any 38 _ rfl (by decide +kernel) rfl rfl (fun w => val_int _ _ _ _ rfl rfl rfl (by rfl) w) ?_
        refine dr_pure 39 hT rfl (by decide +kernel) rfl rfl rfl ?_
        refine dr_pure 40 hT rfl (by decide +kernel) rfl rfl rfl ?_
        exact fin4 _ _ ⟨_, _, rfl, by simp [← hx], hS, rfl, rfl, rfl, rfl, rfl, rfl, rfl, rfl, rfl, rfl, trivial⟩
  intro fin3
  clear fin4
  refine dr_with 19 15393179566079 (fun σ' w' => ∃ kn x : Bool, kn = knownS op ∧ x = ((be || zeroE e) && (bf || zeroE f)) ∧ (Keep [] w3 w' ∧ Blk w' b [.int .i64 op, .int .i64 v, e0, e1, e2, e3, f0, f1, f2, f3, .slice ab lb.length capb, .slice ao lo.length capo] 43) ∧ Sub ([(2, .pointer (some ⟨b, 0, none⟩)), (4, .pointer (some ⟨c, 0, none⟩)), (6, .bool bf), (8, .bool bb), (9, .bool bo), (19, .int .i64 deep), (27, .bool kn), (60, .bool (needV op)), (62, .int .i64 v), (42, .bool x)]) σ') ?_ ?_
  · rintro σ' w5 ⟨kn, x, rfl, hx, hS, hsub⟩
    refine dr_sub hsub ?_
    cases x with
    | false =>
      refine dr_not 24 rfl (by decide +kernel) rfl rfl ?_
      refine dr_not 25 rfl (by decide +kernel) rfl rfl ?_
      refine dr_not 26 rfl (by decide +kernel) rfl rfl ?_
      refine dr_not 27 rfl (by decide +kernel) rfl rfl ?_
      refine dr_not 28 rfl (by decide +kernel) rfl rfl ?_
      refine dr_not 29 rfl (by decide +kernel) rfl rfl ?_
      refine dr_not 30 rfl (by decide +kernel) rfl rfl ?_
      refine dr_pure 31 hT rfl (by decide +kernel) rfl rfl rfl ?_
      refine dr_pure 32 hT rfl (by decide +kernel) rfl rfl rfl ?_
      exact fin3 _ _ ⟨_, _, rfl, by simp [← hx], hS, rfl, rfl, rfl, rfl, rfl, rfl, rfl, rfl, rfl, rfl, trivial⟩
    | true =>
      refine dr_pure 24 hT rfl (by decide +kernel) rfl rfl rfl ?_
      refine dr_pure 25 hT rfl (by decide +kernel) rfl rfl rfl ?_
      cases bb with
      | true =>
        refine dr_not 26 rfl (by decide +kernel) rfl rfl ?_
        refine dr_not 27 rfl (by decide +kernel) rfl rfl ?_
        refine dr_not 28 rfl (by decide +kernel) rfl rfl ?_
        refine dr_not 29 rfl (by decide +kernel) rfl rfl ?_
        refine dr_pure 30 hT rfl (by decide +kernel) rfl rfl rfl ?_
        refine dr_pure 31 hT rfl (by decide +kernel) rfl rfl rfl ?_
        refine dr_pure 32 hT rfl (by decide +kernel) rfl rfl rfl ?_
        exact fin3 _ _ ⟨_, _, rfl, by simp [← hx], hS, rfl, rfl, rfl, rfl, rfl, rfl, rfl, rfl, rfl, rfl, trivial⟩
      | false =>
        refine dr_pure 26 hT rfl (by decide +kernel) rfl rfl rfl ?_
        refine dr_val 27 _ rfl (by decide +kernel) rfl rfl (fun w9 hS9 => val_load1 hT rfl rfl rfl (Blk.cell hS9.2 (by rfl))) hS ?_
        refine dr_pure 28 hT rfl (by decide +kernel) rfl rfl rfl ?_
        refine dr_any 29 _ rfl (by decide +kernel) rfl rfl (fun w => val_int _ _ _ _ rfl rfl rfl (by rfl) w) ?_
        refine dr_pure 30 hT rfl (by decide +kernel) rfl rfl rfl ?_
        refine dr_pure 31 hT rfl (by decide +kernel) rfl rfl rfl ?_
        refine dr_pure 32 hT rfl (by decide +kernel) rfl rfl rfl ?_
        exact fin3 _ _ ⟨_, _, rfl, by simp [← hx], hS, rfl, rfl, rfl, rfl, rfl, rfl, rfl, rfl, rfl, rfl, trivial⟩
  intro fin2
  clear fin3
  refine dr_with 27 15393162854399 (fun σ' w' => ∃ kn x : Bool, kn = knownS op ∧ x = (be || zeroE e) ∧ (Keep [] w3 w' ∧ Blk w' b [.int .i64 op, .int .i64 v, e0, e1, e2, e3, f0, f1, f2, f3, .slice ab lb.length capb, .slice ao lo.length capo] 43) ∧ Sub ([(2, .pointer (some ⟨b, 0, none⟩)), (4, .pointer (some ⟨c, 0, none⟩)), (6, .bool bf), (8, .bool bb), (9, .bool bo), (19, .int .i64 deep), (27, .bool kn), (60, .bool (needV op)), (62, .int .i64 v), (34, .bool x)]) σ') ?_ ?_
  · rintro σ' w5 ⟨kn, x, rfl, hx, hS, hsub⟩
    refine dr_sub hsub ?_
    cases x with
    | false =>
      refine dr_not 16 rfl (by decide +kernel) rfl rfl ?_
      refine dr_not 17 rfl (by decide +kernel) rfl rfl ?_
      refine dr_not 18 rfl (by decide +kernel) rfl rfl ?_
      refine dr_not 19 rfl (by decide +kernel) rfl rfl ?_
      refine dr_not 20 rfl (by decide +kernel) rfl rfl ?_
      refine dr_not 21 rfl (by decide +kernel) rfl rfl ?_
      refine dr_pure 22 hT rfl (by decide +kernel) rfl rfl rfl ?_
      refine dr_pure 23 hT rfl (by decide +kernel) rfl rfl rfl ?_
      exact fin2 _ _ ⟨_, _, rfl, by simp [← hx], hS, rfl, rfl, rfl, rfl, rfl, rfl, rfl, rfl, rfl, rfl, trivial⟩
    | true =>
      refine dr_pure 16 hT rfl (by decide +kernel) rfl rfl rfl ?_
      refine dr_pure 17 hT rfl (by decide +kernel) rfl rfl rfl ?_
      cases bf with
      | true =>
        refine dr_not 18 rfl (by decide +kernel) rfl rfl ?_
        refine dr_not 19 rfl (by decide +kernel) rfl rfl ?_
        refine dr_not 20 rfl (by decide +kernel) rfl rfl ?_
        refine dr_pure 21 hT rfl (by decide +kernel) rfl rfl rfl ?_
        refine dr_pure 22 hT rfl (by decide +kernel) rfl rfl rfl ?_
        refine dr_pure 23 hT rfl (by decide +kernel) rfl rfl rfl ?_
        exact fin2 _ _ ⟨_, _, rfl, by simp [← hx], hS, rfl, rfl, rfl, rfl, rfl, rfl, rfl, rfl, rfl, rfl, trivial⟩
      | false =>
        refine dr_pure 18 hT rfl (by decide +kernel) rfl rfl rfl ?_
        refine dr_val 19 _ rfl (by decide +kernel) rfl rfl (fun w9 hS9 => val_load [f0, f1, f2, f3] hT rfl rfl rfl (Blk.range hS9.2 (by rfl))) hS ?_
        refine dr_op 20 rfl (by decide +kernel) rfl rfl (opTo_call rfl rfl rfl rfl (by decide +kernel) ((isZero_ret (hf3.keep hS.1 hF3.stays)).mono ?_))
        rintro v6 w6 ⟨rfl, hk6⟩
        replace hS := And.intro (hS.1.tr hk6) (hk6.blk hS.2 (by simp))
        refine ⟨fun _ => hS, ?_⟩
        refine dr_pure 21 hT rfl (by decide +kernel) rfl rfl rfl ?_
        refine dr_pure 22 hT rfl (by decide +kernel) rfl rfl rfl ?_
        refine dr_pure 23 hT rfl (by decide +kernel) rfl rfl rfl ?_
        exact fin2 _ _ ⟨_, _, rfl, by simp [← hx], hS, rfl, rfl, rfl, rfl, rfl, rfl, rfl, rfl, rfl, rfl, trivial⟩
  intro fin1
  clear fin2
  refine dr_with 34 15393162789375 (fun σ' w' => ∃ kn x : Bool, kn = knownS op ∧ x = (true) ∧ (Keep [] w3 w' ∧ Blk w' b [.int .i64 op, .int .i64 v, e0, e1, e2, e3, f0, f1, f2, f3, .slice ab lb.length capb, .slice ao lo.length capo] 43) ∧ Sub ([(2, .pointer (some ⟨b, 0, none⟩)), (4, .pointer (some ⟨c, 0, none⟩)), (6, .bool bf), (8, .bool bb), (9, .bool bo), (19, .int .i64 deep), (27, .bool kn), (60, .bool (needV op)), (62, .int .i64 v), (5, .bool be)]) σ') ?_ ?_
  · rintro σ' w5 ⟨kn, x, rfl, hx, hS, hsub⟩
    refine dr_sub hsub ?_
    refine dr_pure 9 hT rfl (by decide +kernel) rfl rfl rfl ?_
    refine dr_pure 10 hT rfl (by decide +kernel) rfl rfl rfl ?_
    cases be with
    | true =>
      refine dr_not 11 rfl (by decide +kernel) rfl rfl ?_
      refine dr_not 12 rfl (by decide +kernel) rfl rfl ?_
      refine dr_not 13 rfl (by decide +kernel) rfl rfl ?_
      refine dr_pure 14 hT rfl (by decide +kernel) rfl rfl rfl ?_
      refine dr_pure 15 hT rfl (by decide +kernel) rfl rfl rfl ?_
      exact fin1 _ _ ⟨_, _, rfl, rfl, hS, rfl, rfl, rfl, rfl, rfl, rfl, rfl, rfl, rfl, rfl, trivial⟩
    | false =>
      refine dr_pure 11 hT rfl (by decide +kernel) rfl rfl rfl ?_
      refine dr_val 12 _ rfl (by decide +kernel) rfl rfl (fun w9 hS9 => val_load [e0, e1, e2, e3] hT rfl rfl rfl (Blk.range hS9.2 (by rfl))) hS ?_
      refine dr_op 13 rfl (by decide +kernel) rfl rfl (opTo_call rfl rfl rfl rfl (by decide +kernel) ((isZero_ret (he3.keep hS.1 hF3.stays)).mono ?_))
      rintro v6 w6 ⟨rfl, hk6⟩
      replace hS := And.intro (hS.1.tr hk6) (hk6.blk hS.2 (by simp))
      refine ⟨fun _ => hS, ?_⟩
      refine dr_pure 14 hT rfl (by decide +kernel) rfl rfl rfl ?_
      refine dr_pure 15 hT rfl (by decide +kernel) rfl rfl rfl ?_
      exact fin1 _ _ ⟨_, _, rfl, rfl, hS, rfl, rfl, rfl, rfl, rfl, rfl, rfl, rfl, rfl, rfl, trivial⟩
  intro fin0
  clear fin1
  refine dr_pure 0 hT rfl (by decide +kernel) rfl rfl rfl ?_
  refine dr_pure 1 hT rfl (by decide +kernel) rfl rfl rfl ?_
  refine dr_val 2 _ rfl (by decide +kernel) rfl rfl (fun w9 hS9 => val_load1 hT rfl rfl rfl (Blk.cell hS9.2 (by rfl))) hS ?_
  refine dr_pure 41 hT rfl (by decide +kernel) rfl rfl rfl ?_
  refine dr_pure 42 hT rfl (by decide +kernel) rfl rfl rfl ?_
  refine dr_val 43 _ rfl (by decide +kernel) rfl rfl (fun w9 hS9 => val_load1 hT rfl rfl rfl (Blk.cell hS9.2 (by rfl))) hS ?_
  by_cases h1 : op ≥ 1
  · refine dr_yes 3 rfl (by decide +kernel) rfl rfl rfl rfl rfl (by first | (simp only [cmpP]; omega) | (simp [cmpP]; done) | (simp [cmpP]; omega)) ?_
    refine dr_pure 4 hT rfl (by decide +kernel) rfl rfl rfl ?_
    refine dr_pure 5 hT rfl (by decide +kernel) rfl rfl rfl ?_
    refine dr_val 6 _ rfl (by decide +kernel) rfl rfl (fun w9 hS9 => val_load1 hT rfl rfl rfl (Blk.cell hS9.2 (by rfl))) hS ?_
    refine dr_any 7 _ rfl (by decide +kernel) rfl rfl (fun w => val_int _ _ _ _ rfl rfl rfl (by rfl) w) ?_
    refine dr_pure 8 hT rfl (by decide +kernel) rfl rfl rfl ?_
    exact fin0 _ _ ⟨_, true, by simp [knownS]; omega, rfl, hS, rfl, rfl, rfl, rfl, rfl, rfl, rfl, rfl, rfl, rfl, trivial⟩
  · refine dr_no 3 rfl (by decide +kernel) rfl rfl rfl rfl rfl rfl (by first | (simp only [cmpP]; omega) | (simp [cmpP]; done) | (simp [cmpP]; omega)) ?_
    refine dr_pure 4 hT rfl (by decide +kernel) rfl rfl rfl ?_
    refine dr_not 5 rfl (by decide +kernel) rfl rfl ?_
    refine dr_not 6 rfl (by decide +kernel) rfl rfl ?_
    refine dr_not 7 rfl (by decide +kernel) rfl rfl ?_
    refine dr_pure 8 hT rfl (by decide +kernel) rfl rfl rfl ?_
    exact fin0 _ _ ⟨_, true, by simp [knownS]; omega, rfl, hS, rfl, rfl, rfl, rfl, rfl, rfl, rfl, rfl, rfl, rfl, trivial⟩
end E
end Go.Proofs.YthbkcadiejfgaacGreatDoor

/- Contracts of Check's closure, exprsOf, lookExprs, lookStmts. -/
namespace Go.Proofs.YthbkcadiejfgaacGreatDoor
set_option maxRecDepth 20000
set_option maxHeartbeats 4000000
namespace E
open Go.Proofs

theorem app_keep {w0 w w' : World} {e size ln m g : Nat} {v : Value} {xs : List Value} (hk : Keep [] w0 w) (ho : Own w w0.heap.size e size v ln xs)
    (hor : (v.ownBlock = some g ∧ ln + m ≤ capOf v ∧ Keep [g] w w') ∨ (g = w.heap.size ∧ Keep [] w w' ∧ w'.heap.size = w.heap.size + 1)) : Keep [] w0 w' := by
  rcases hor with ⟨h1, _, h2⟩ | ⟨_, h2, _⟩
  · exact hk.trB h2 (ho.lt g h1).1
  · exact hk.tr h2

theorem slice_expr (a b c d : Value) : sliceCells Tryz.prog 39 1 [(0, .agg #[a, b, c, d])] = some (41, #[a, b, c, d]) := by kernel_rfl

theorem exprsOf_ret {F : Nat → Prop} {w : World} {op v : Int} {e f : ET} {lb lo : List ST} {ce cf : List Value} {bv ov : Value} (hF : In F w) (he : ExprV F w ce e) (hf : ExprV F w cf f) (hb : StmtsV F w bv lb) (ho : StmtsV F w ov lo) :
    Ret Tryz.prog 70 [.agg (scells op v ce cf bv ov).toArray] w fun r w' => (∃ F' : Nat → Prop, ExprsV F' w' r (els op e f) ∧ ∀ k, F' k → k < w'.heap.size ∧ (F k ∨ w.heap.size ≤ k)) ∧ Keep [] w w' := by
  obtain ⟨e0, e1, e2, e3, rfl⟩ := list4 he.length
  obtain ⟨f0, f1, f2, f3, rfl⟩ := list4 hf.length
  obtain ⟨ab, capb, rfl⟩ := hb.form
  obtain ⟨ao, capo, rfl⟩ := ho.form
  have oe := he.one
  have of := hf.one
  refine ret_of 31 Tryz.func70 rfl rfl (by simp) ?_
  (repeat (first | refine pl_pure hT rfl rfl rfl ?_ | refine pl_nil ?_ | refine rn_seq ?_ | refine rn_plain ?_ | refine rn_block ?_ | refine rn_inBlock ?_ | refine rn_skip ?_ | refine rn_true rfl ?_ | refine rn_false rfl ?_ | refine rn_exit rfl ?_ | refine pl_not rfl rfl ?_))
  refine pl_op rfl rfl (opTo_boxN [.int .i64 op, .int .i64 v, e0, e1, e2, e3, f0, f1, f2, f3, .slice ab lb.length capb, .slice ao lo.length capo] rfl rfl rfl ?_)
  intro w1 b hb0 hs1 hk1 hb1
  (repeat (first | refine pl_pure hT rfl rfl rfl ?_ | refine pl_nil ?_ | refine rn_seq ?_ | refine rn_plain ?_ | refine rn_block ?_ | refine rn_inBlock ?_ | refine rn_skip ?_ | refine rn_true rfl ?_ | refine rn_false rfl ?_ | refine rn_exit rfl ?_ | refine pl_not rfl rfl ?_))
  refine pl_val _ rfl rfl (val_load1 hT rfl rfl rfl (hb1.cell rfl)) ?_
  obtain ⟨be, hbe⟩ : ∃ x, x = needE op := ⟨_, rfl⟩
  obtain ⟨bf, hbf⟩ : ∃ x, x = needF op := ⟨_, rfl⟩
  have hR := has_ret op w1
  simp only [hasV, ← hbe, ← hbf] at hR
  refine pl_op rfl rfl (opTo_call rfl rfl rfl rfl (by decide +kernel) (hR.mono ?_))
  rintro v3 w3 ⟨rfl, rfl⟩
  unfold els
  rw [← hbe, ← hbf]
  clear hbe hbf hR
  have hnil : Own w3 w.heap.size 41 4 (.slice none 0 0) ([] : List (List Value)).length ([] : List (List Value)).flatten := Own.nil _ _ _ _
  have fin : ∀ (rv : Value) (w' : World) (ccs : List (List Value)) (l : List ET) (hl : ccs.length = l.length), Own w' w.heap.size 41 4 rv ccs.length ccs.flatten → Keep [] w w' → (∀ i (hi : i < l.length), ExprV F w (ccs.getD i []) (l[i]'hi)) →
      (∃ F' : Nat → Prop, ExprsV F' w' rv l ∧ ∀ k, F' k → k < w'.heap.size ∧ (F k ∨ w.heap.size ≤ k)) ∧ Keep [] w w' := by
    intro rv w' ccs l hl hown hk hc
    refine ⟨⟨_, exprs_of_own (F := F) hown hl fun i hi => (hc i hi).keep hk hF.stays, ?_⟩, hk⟩
    rintro k (h | h)
    · have := hown.lt k h
      exact ⟨this.2, .inr this.1⟩
    · exact ⟨Nat.lt_of_lt_of_le (hF k h) hk.size, .inl h⟩
  cases be with
  | false =>
    cases bf with
    | false =>
      (repeat (first | refine pl_pure hT rfl rfl rfl ?_ | refine pl_nil ?_ | refine rn_seq ?_ | refine rn_plain ?_ | refine rn_block ?_ | refine rn_inBlock ?_ | refine rn_skip ?_ | refine rn_true rfl ?_ | refine rn_false rfl ?_ | refine rn_exit rfl ?_ | refine pl_not rfl rfl ?_))
      exact rn_ret Tryz.func70 (.inl ⟨_, rfl, rfl⟩) (fin _ _ [] [] rfl hnil hk1 (fun i hi => by simp at hi))
    | true =>
      (repeat (first | refine pl_pure hT rfl rfl rfl ?_ | refine pl_nil ?_ | refine rn_seq ?_ | refine rn_plain ?_ | refine rn_block ?_ | refine rn_inBlock ?_ | refine rn_skip ?_ | refine rn_true rfl ?_ | refine rn_false rfl ?_ | refine rn_exit rfl ?_ | refine pl_not rfl rfl ?_))
      refine pl_val _ rfl rfl (val_load [f0, f1, f2, f3] hT rfl rfl rfl (hb1.range (by rfl))) ?_
      refine pl_op rfl rfl (opTo_sliceN _ _ rfl rfl (slice_expr f0 f1 f2 f3) ?_)
      intro w4 g4 hg4 hs4 hk4 hx4
      have hn4 := hnil.keep hk4 (by simp)
      refine pl_op rfl rfl (opTo_app w.heap.size 41 4 48 [] [f0, f1, f2, f3] rfl rfl rfl (by decide +kernel) hn4 (hx4.range (by rfl)) rfl of (by decide) (by decide) (by decide) (hk1.tr hk4).size ?_)
      intro g5 cap5 w5 ho5 hor5
      have hk5 := app_keep (hk1.tr hk4) hn4 hor5
      (repeat (first | refine pl_pure hT rfl rfl rfl ?_ | refine pl_nil ?_ | refine rn_seq ?_ | refine rn_plain ?_ | refine rn_block ?_ | refine rn_inBlock ?_ | refine rn_skip ?_ | refine rn_true rfl ?_ | refine rn_false rfl ?_ | refine rn_exit rfl ?_ | refine pl_not rfl rfl ?_))
      exact rn_ret Tryz.func70 (.inl ⟨_, rfl, rfl⟩) (fin _ _ [[f0, f1, f2, f3]] [f] rfl ho5 hk5 (fun i hi => by
        obtain rfl : i = 0 := by simpa using hi
        exact hf))
  | true =>
    (repeat (first | refine pl_pure hT rfl rfl rfl ?_ | refine pl_nil ?_ | refine rn_seq ?_ | refine rn_plain ?_ | refine rn_block ?_ | refine rn_inBlock ?_ | refine rn_skip ?_ | refine rn_true rfl ?_ | refine rn_false rfl ?_ | refine rn_exit rfl ?_ | refine pl_not rfl rfl ?_))
    refine pl_val _ rfl rfl (val_load [e0, e1, e2, e3] hT rfl rfl rfl (hb1.range (by rfl))) ?_
    refine pl_op rfl rfl (opTo_sliceN _ _ rfl rfl (slice_expr e0 e1 e2 e3) ?_)
    intro w4 g4 hg4 hs4 hk4 hx4
    have hn4 := hnil.keep hk4 (by simp)
    have hb4 := hk4.blk hb1 (by simp)
    refine pl_op rfl rfl (opTo_app w.heap.size 41 4 48 [] [e0, e1, e2, e3] rfl rfl rfl (by decide +kernel) hn4 (hx4.range (by rfl)) rfl oe (by decide) (by decide) (by decide) (hk1.tr hk4).size ?_)
    intro g5 cap5 w5 ho5 hor5
    have hk5 := app_keep (hk1.tr hk4) hn4 hor5
    have hb5 : Blk w5 b [.int .i64 op, .int .i64 v, e0, e1, e2, e3, f0, f1, f2, f3, .slice ab lb.length capb, .slice ao lo.length capo] 43 := by
      rcases hor5 with ⟨h, _⟩ | ⟨_, h, _⟩
      · cases h
      · exact h.blk hb4 (by simp)
    cases bf with
    | false =>
      (repeat (first | refine pl_pure hT rfl rfl rfl ?_ | refine pl_nil ?_ | refine rn_seq ?_ | refine rn_plain ?_ | refine rn_block ?_ | refine rn_inBlock ?_ | refine rn_skip ?_ | refine rn_true rfl ?_ | refine rn_false rfl ?_ | refine rn_exit rfl ?_ | refine pl_not rfl rfl ?_))
      exact rn_ret Tryz.func70 (.inl ⟨_, rfl, rfl⟩) (fin _ _ [[e0, e1, e2, e3]] [e] rfl ho5 hk5 (fun i hi => by
        obtain rfl : i = 0 := by simpa using hi
        exact he))
    | true =>
      (repeat (first | refine pl_pure hT rfl rfl rfl ?_ | refine pl_nil ?_ | refine rn_seq ?_ | refine rn_plain ?_ | refine rn_block ?_ | refine rn_inBlock ?_ | refine rn_skip ?_ | refine rn_true rfl ?_ | refine rn_false rfl ?_ | refine rn_exit rfl ?_ | refine pl_not rfl rfl ?_))
      refine pl_val _ rfl rfl (val_load [f0, f1, f2, f3] hT rfl rfl rfl (hb5.range (by rfl))) ?_
      refine pl_op rfl rfl (opTo_sliceN _ _ rfl rfl (slice_expr f0 f1 f2 f3) ?_)
      intro w6 g6 hg6 hs6 hk6 hx6
      have hn6 := ho5.keep hk6 (by simp)
      refine pl_op rfl rfl (opTo_app w.heap.size 41 4 48 [e0, e1, e2, e3] [f0, f1, f2, f3] rfl rfl rfl (by decide +kernel) hn6 (hx6.range (by rfl)) rfl of (by decide) (by decide) (by decide) (hk5.tr hk6).size ?_)
      intro g7 cap7 w7 ho7 hor7
      have hk7 := app_keep (hk5.tr hk6) hn6 hor7
      (repeat (first | refine pl_pure hT rfl rfl rfl ?_ | refine pl_nil ?_ | refine rn_seq ?_ | refine rn_plain ?_ | refine rn_block ?_ | refine rn_inBlock ?_ | refine rn_skip ?_ | refine rn_true rfl ?_ | refine rn_false rfl ?_ | refine rn_exit rfl ?_ | refine pl_not rfl rfl ?_))
      exact rn_ret Tryz.func70 (.inl ⟨_, rfl, rfl⟩) (fin _ _ [[e0, e1, e2, e3], [f0, f1, f2, f3]] [e, f] rfl ho7 hk7 (fun i hi => by
        match i, hi with
        | 0, _ => exact he
        | 1, _ => exact hf))

theorem look_ret {w : World} {m pb k nv capv : Nat} {av : Option Addr} {bv : Value} (hm : Blk w m [.int .i64 (k : Nat)] 3) (hp : Blk w pb [.slice av nv capv, bv] 26) (hk : k ≤ 1000) (deep : Int) (kn fi na : Bool) (v : Int) :
    Ret Tryz.prog 36 [.agg (partL deep kn fi na v).toArray, .pointer (some ⟨m, 0, none⟩), .pointer (some ⟨pb, 0, none⟩)] w fun r w' => r = .int .i64 (lookK nv k deep kn fi na v) ∧ Blk w' m [.int .i64 ((k + 1 : Nat) : Int)] 3 ∧ Keep [m] w w' := by
  refine ret_of 47 Tryz.func36 rfl rfl (by simp) ?_
  (repeat (first | refine pl_pure hT rfl rfl rfl ?_ | refine pl_nil ?_ | refine rn_seq ?_ | refine rn_plain ?_ | refine rn_block ?_ | refine rn_inBlock ?_ | refine rn_skip ?_ | refine rn_true rfl ?_ | refine rn_false rfl ?_ | refine rn_exit rfl ?_ | refine pl_not rfl rfl ?_))
  refine pl_op rfl rfl (opTo_boxN (partL deep kn fi na v) rfl rfl rfl ?_)
  intro w1 b hb0 hs1 hk1 hb1
  have hm1 := hk1.blk hm (by simp)
  have hp1 := hk1.blk hp (by simp)
  (repeat (first | refine pl_pure hT rfl rfl rfl ?_ | refine pl_nil ?_ | refine rn_seq ?_ | refine rn_plain ?_ | refine rn_block ?_ | refine rn_inBlock ?_ | refine rn_skip ?_ | refine rn_true rfl ?_ | refine rn_false rfl ?_ | refine rn_exit rfl ?_ | refine pl_not rfl rfl ?_))
  refine pl_val _ rfl rfl (val_load1 hT rfl rfl rfl (hm1.cell rfl)) ?_
  refine pl_num (((k + 1 : Nat) : Int)) rfl rfl rfl rfl rfl (by simp only [ariP]; omega) ?_
  refine pl_op rfl rfl (opTo_storeN _ rfl rfl rfl rfl (by kernel_rfl) hm1 (by simp) (by simp; rfl) ?_)
  intro w2 hs2 hk2 hm2
  have hp2 := hk2.blk hp1 (by simp; exact hp1.ne hm1 (by decide))
  have hb2 := hk2.blk hb1 (by simp; exact hb1.ne hm1 (by decide))
  rw [splice_whole (by rfl)] at hm2
  have hkw : Keep [m] w w2 := (Keep.of0 hk1).tr hk2
  have hmem : Blk w2 m [.int .i64 ((k + 1 : Nat) : Int)] 3 ∧ Keep [m] w w2 := ⟨hm2, hkw⟩
  clear hb1 hm1 hp1 hk1 hk2 hm hp
  unfold partL at hb2
  unfold lookK
  by_cases h1 : deep > 12
  · (repeat (first | refine pl_pure hT rfl rfl rfl ?_ | refine pl_nil ?_ | refine rn_seq ?_ | refine rn_plain ?_ | refine rn_block ?_ | refine rn_inBlock ?_ | refine rn_skip ?_ | refine rn_true rfl ?_ | refine rn_false rfl ?_ | refine rn_exit rfl ?_ | refine pl_not rfl rfl ?_ | refine pl_val _ rfl rfl (val_load1 hT rfl rfl rfl (Blk.cell (by assumption) (by rfl))) ?_ | refine pl_yes rfl rfl rfl rfl rfl (by first | (simp only [cmpP]; omega) | (simp [cmpP]; done) | (simp [cmpP]; omega)) ?_ | refine pl_no rfl rfl rfl rfl rfl rfl (by first | (simp only [cmpP]; omega) | (simp [cmpP]; done) | (simp [cmpP]; omega)) ?_))
    exact rn_ret Tryz.func36 (.inl ⟨_, rfl, rfl⟩) ⟨by rw [if_pos h1], hmem⟩
  rw [if_neg h1]
  by_cases h2 : k + 1 > 150
  · (repeat (first | refine pl_pure hT rfl rfl rfl ?_ | refine pl_nil ?_ | refine rn_seq ?_ | refine rn_plain ?_ | refine rn_block ?_ | refine rn_inBlock ?_ | refine rn_skip ?_ | refine rn_true rfl ?_ | refine rn_false rfl ?_ | refine rn_exit rfl ?_ | refine pl_not rfl rfl ?_ | refine pl_val _ rfl rfl (val_load1 hT rfl rfl rfl (Blk.cell (by assumption) (by rfl))) ?_ | refine pl_yes rfl rfl rfl rfl rfl (by first | (simp only [cmpP]; omega) | (simp [cmpP]; done) | (simp [cmpP]; omega)) ?_ | refine pl_no rfl rfl rfl rfl rfl rfl (by first | (simp only [cmpP]; omega) | (simp [cmpP]; done) | (simp [cmpP]; omega)) ?_))
    exact rn_ret Tryz.func36 (.inl ⟨_, rfl, rfl⟩) ⟨by rw [if_pos h2], hmem⟩
  rw [if_neg h2]
  cases kn with
  | false =>
    (repeat (first | refine pl_pure hT rfl rfl rfl ?_ | refine pl_nil ?_ | refine rn_seq ?_ | refine rn_plain ?_ | refine rn_block ?_ | refine rn_inBlock ?_ | refine rn_skip ?_ | refine rn_true rfl ?_ | refine rn_false rfl ?_ | refine rn_exit rfl ?_ | refine pl_not rfl rfl ?_ | refine pl_val _ rfl rfl (val_load1 hT rfl rfl rfl (Blk.cell (by assumption) (by rfl))) ?_ | refine pl_yes rfl rfl rfl rfl rfl (by first | (simp only [cmpP]; omega) | (simp [cmpP]; done) | (simp [cmpP]; omega)) ?_ | refine pl_no rfl rfl rfl rfl rfl rfl (by first | (simp only [cmpP]; omega) | (simp [cmpP]; done) | (simp [cmpP]; omega)) ?_))
    exact rn_ret Tryz.func36 (.inl ⟨_, rfl, rfl⟩) ⟨rfl, hmem⟩
  | true =>
    cases fi with
    | false =>
      (repeat (first | refine pl_pure hT rfl rfl rfl ?_ | refine pl_nil ?_ | refine rn_seq ?_ | refine rn_plain ?_ | refine rn_block ?_ | refine rn_inBlock ?_ | refine rn_skip ?_ | refine rn_true rfl ?_ | refine rn_false rfl ?_ | refine rn_exit rfl ?_ | refine pl_not rfl rfl ?_ | refine pl_val _ rfl rfl (val_load1 hT rfl rfl rfl (Blk.cell (by assumption) (by rfl))) ?_ | refine pl_yes rfl rfl rfl rfl rfl (by first | (simp only [cmpP]; omega) | (simp [cmpP]; done) | (simp [cmpP]; omega)) ?_ | refine pl_no rfl rfl rfl rfl rfl rfl (by first | (simp only [cmpP]; omega) | (simp [cmpP]; done) | (simp [cmpP]; omega)) ?_))
      exact rn_ret Tryz.func36 (.inl ⟨_, rfl, rfl⟩) ⟨rfl, hmem⟩
    | true =>
      cases na with
      | true =>
        by_cases h3 : v < 0
        · (repeat (first | refine pl_pure hT rfl rfl rfl ?_ | refine pl_nil ?_ | refine rn_seq ?_ | refine rn_plain ?_ | refine rn_block ?_ | refine rn_inBlock ?_ | refine rn_skip ?_ | refine rn_true rfl ?_ | refine rn_false rfl ?_ | refine rn_exit rfl ?_ | refine pl_not rfl rfl ?_ | refine pl_val _ rfl rfl (val_load1 hT rfl rfl rfl (Blk.cell (by assumption) (by rfl))) ?_ | refine pl_yes rfl rfl rfl rfl rfl (by first | (simp only [cmpP]; omega) | (simp [cmpP]; done) | (simp [cmpP]; omega)) ?_ | refine pl_no rfl rfl rfl rfl rfl rfl (by first | (simp only [cmpP]; omega) | (simp [cmpP]; done) | (simp [cmpP]; omega)) ?_))
          exact rn_ret Tryz.func36 (.inl ⟨_, rfl, rfl⟩) ⟨by simp [varK, h3], hmem⟩
        · by_cases h4 : v ≥ (nv : Int)
          · (repeat (first | refine pl_pure hT rfl rfl rfl ?_ | refine pl_nil ?_ | refine rn_seq ?_ | refine rn_plain ?_ | refine rn_block ?_ | refine rn_inBlock ?_ | refine rn_skip ?_ | refine rn_true rfl ?_ | refine rn_false rfl ?_ | refine rn_exit rfl ?_ | refine pl_not rfl rfl ?_ | refine pl_val _ rfl rfl (val_load1 hT rfl rfl rfl (Blk.cell (by assumption) (by rfl))) ?_ | refine pl_yes rfl rfl rfl rfl rfl (by first | (simp only [cmpP]; omega) | (simp [cmpP]; done) | (simp [cmpP]; omega)) ?_ | refine pl_no rfl rfl rfl rfl rfl rfl (by first | (simp only [cmpP]; omega) | (simp [cmpP]; done) | (simp [cmpP]; omega)) ?_))
            exact rn_ret Tryz.func36 (.inl ⟨_, rfl, rfl⟩) ⟨by simp [varK, h4], hmem⟩
          · (repeat (first | refine pl_pure hT rfl rfl rfl ?_ | refine pl_nil ?_ | refine rn_seq ?_ | refine rn_plain ?_ | refine rn_block ?_ | refine rn_inBlock ?_ | refine rn_skip ?_ | refine rn_true rfl ?_ | refine rn_false rfl ?_ | refine rn_exit rfl ?_ | refine pl_not rfl rfl ?_ | refine pl_val _ rfl rfl (val_load1 hT rfl rfl rfl (Blk.cell (by assumption) (by rfl))) ?_ | refine pl_yes rfl rfl rfl rfl rfl (by first | (simp only [cmpP]; omega) | (simp [cmpP]; done) | (simp [cmpP]; omega)) ?_ | refine pl_no rfl rfl rfl rfl rfl rfl (by first | (simp only [cmpP]; omega) | (simp [cmpP]; done) | (simp [cmpP]; omega)) ?_))
            exact rn_ret Tryz.func36 (.inl ⟨_, rfl, rfl⟩) ⟨by simp [varK, h3, h4], hmem⟩
      | false =>
        by_cases h3 : v = 0
        · (repeat (first | refine pl_pure hT rfl rfl rfl ?_ | refine pl_nil ?_ | refine rn_seq ?_ | refine rn_plain ?_ | refine rn_block ?_ | refine rn_inBlock ?_ | refine rn_skip ?_ | refine rn_true rfl ?_ | refine rn_false rfl ?_ | refine rn_exit rfl ?_ | refine pl_not rfl rfl ?_ | refine pl_val _ rfl rfl (val_load1 hT rfl rfl rfl (Blk.cell (by assumption) (by rfl))) ?_ | refine pl_yes rfl rfl rfl rfl rfl (by first | (simp only [cmpP]; omega) | (simp [cmpP]; done) | (simp [cmpP]; omega)) ?_ | refine pl_no rfl rfl rfl rfl rfl rfl (by first | (simp only [cmpP]; omega) | (simp [cmpP]; done) | (simp [cmpP]; omega)) ?_))
          exact rn_ret Tryz.func36 (.inl ⟨_, rfl, rfl⟩) ⟨by simp [varK, h3], hmem⟩
        · (repeat (first | refine pl_pure hT rfl rfl rfl ?_ | refine pl_nil ?_ | refine rn_seq ?_ | refine rn_plain ?_ | refine rn_block ?_ | refine rn_inBlock ?_ | refine rn_skip ?_ | refine rn_true rfl ?_ | refine rn_false rfl ?_ | refine rn_exit rfl ?_ | refine pl_not rfl rfl ?_ | refine pl_val _ rfl rfl (val_load1 hT rfl rfl rfl (Blk.cell (by assumption) (by rfl))) ?_ | refine pl_yes rfl rfl rfl rfl rfl (by first | (simp only [cmpP]; omega) | (simp [cmpP]; done) | (simp [cmpP]; omega)) ?_ | refine pl_no rfl rfl rfl rfl rfl rfl (by first | (simp only [cmpP]; omega) | (simp [cmpP]; done) | (simp [cmpP]; omega)) ?_))
          exact rn_ret Tryz.func36 (.inl ⟨_, rfl, rfl⟩) ⟨by simp [varK, h3], hmem⟩
end E
end Go.Proofs.YthbkcadiejfgaacGreatDoor
