/- Contract of stmtPart: what a statement is looked at for. -/
import Derived.Test.YtpbdjpoohpocfabCoC
namespace Go.Proofs.Ytpbdjpoohpocfab
set_option maxRecDepth 20000
set_option maxHeartbeats 4000000
namespace E
open Go.Proofs


theorem stmtPart_ret {F : Nat → Prop} {w : World} {op v : Int} {e f : ET} {lb lo : List ST} {ce cf : List Value} {bv ov : Value} (hF : In F w) (he : ExprV F w ce e) (hf : ExprV F w cf f) (hb : StmtsV F w bv lb) (ho : StmtsV F w ov lo) (deep : Int) :
    Ret Try.prog 92 [.agg (scells op v ce cf bv ov).toArray, .int .i64 deep] w fun r w' => r = .agg (partL deep (knownS op) (fitsS op e f lb.length lo.length) (needV op) v).toArray ∧ Keep [] w w' := by
  obtain ⟨e0, e1, e2, e3, rfl⟩ := list4 he.length
  obtain ⟨f0, f1, f2, f3, rfl⟩ := list4 hf.length
  obtain ⟨ab, capb, rfl⟩ := hb.form
  obtain ⟨ao, capo, rfl⟩ := ho.form
  refine ret_of 64 Try.func92 rfl rfl (by simp) ?_
  (repeat (first | refine pl_pure hT rfl rfl rfl ?_ | refine pl_nil ?_ | refine rn_seq ?_ | refine rn_plain ?_ | refine rn_block ?_ | refine rn_inBlock ?_ | refine rn_skip ?_ | refine rn_true rfl ?_ | refine rn_false rfl ?_ | refine rn_exit rfl ?_ | refine pl_not rfl rfl ?_))
  refine pl_op rfl rfl (opTo_boxN [.int .i64 op, .int .i64 v, e0, e1, e2, e3, f0, f1, f2, f3, .slice ab lb.length capb, .slice ao lo.length capo] rfl rfl rfl ?_)
  intro w1 b hb0 hs1 hk1 hb1
  refine pl_op rfl rfl (opTo_allocN _ rfl zero_part ?_)
  intro w2 c hc hs2 hk2 hc2
  have hb2 := hk2.blk hb1 (by simp)
  (repeat (first | refine pl_pure hT rfl rfl rfl ?_ | refine pl_nil ?_ | refine rn_seq ?_ | refine rn_plain ?_ | refine rn_block ?_ | refine rn_inBlock ?_ | refine rn_skip ?_ | refine rn_true rfl ?_ | refine rn_false rfl ?_ | refine rn_exit rfl ?_ | refine pl_not rfl rfl ?_))
  refine pl_val _ rfl rfl (val_load1 hT rfl rfl rfl (hb2.cell rfl)) ?_
  obtain ⟨be, hbe⟩ : ∃ x, x = needE op := ⟨_, rfl⟩
  obtain ⟨bf, hbf⟩ : ∃ x, x = needF op := ⟨_, rfl⟩
  obtain ⟨bb, hbb⟩ : ∃ x, x = needB op := ⟨_, rfl⟩
  obtain ⟨bo, hbo⟩ : ∃ x, x = needO op := ⟨_, rfl⟩
  have hfit : fitsS op e f lb.length lo.length = ((((be || zeroE e) && (bf || zeroE f)) && (bb || (lb.length : Int) == 0)) && (bo || (lo.length : Int) == 0)) := by rw [hbe, hbf, hbb, hbo]; rfl
  have hR := has_ret op w2
  simp only [hasV, ← hbe, ← hbf, ← hbb, ← hbo] at hR
  refine pl_op rfl rfl (opTo_call rfl rfl rfl rfl (by decide +kernel) (hR.mono ?_))
  rintro v3 w3 ⟨rfl, rfl⟩
  (repeat (first | refine pl_pure hT rfl rfl rfl ?_ | refine pl_nil ?_ | refine rn_seq ?_ | refine rn_plain ?_ | refine rn_block ?_ | refine rn_inBlock ?_ | refine rn_skip ?_ | refine rn_true rfl ?_ | refine rn_false rfl ?_ | refine rn_exit rfl ?_ | refine pl_not rfl rfl ?_))
  refine rn_draw (fun w' => Keep [] w3 w' ∧ Blk w' b [.int .i64 op, .int .i64 v, e0, e1, e2, e3, f0, f1, f2, f3, .slice ab lb.length capb, .slice ao lo.length capo] 119) [45] hMix ?_
  have hS : Keep [] w3 w3.drew ∧ Blk w3.drew b [.int .i64 op, .int .i64 v, e0, e1, e2, e3, f0, f1, f2, f3, .slice ab lb.length capb, .slice ao lo.length capo] 119 := ⟨(Keep.refl _ _).drew, hb2.drew⟩
  have hkw : Keep [] w w3 := hk1.tr hk2
  have hsz : w.heap.size ≤ c := by have := hk1.size; omega
  have he3 := he.keep hkw hF.stays
  have hf3 := hf.keep hkw hF.stays
  have hF3 := hF.keep hkw
  generalize w3.drew = w4 at *
  clear hk1 hk2 hb1 hb2 hR hbe hbf hbb hbo
  rw [hfit]
  clear hfit
  refine dr_with 2 17592186044415 (fun σ' w' => ∃ kn x : Bool, kn = knownS op ∧ x = ((((be || zeroE e) && (bf || zeroE f)) && (bb || (lb.length : Int) == 0)) && (bo || (lo.length : Int) == 0)) ∧ (Keep [] w3 w' ∧ Blk w' b [.int .i64 op, .int .i64 v, e0, e1, e2, e3, f0, f1, f2, f3, .slice ab lb.length capb, .slice ao lo.length capo] 119) ∧ Sub ([(2, .pointer (some ⟨b, 0, none⟩)), (4, .pointer (some ⟨c, 0, none⟩)), (6, .bool bf), (8, .bool bb), (9, .bool bo), (19, .int .i64 deep), (27, .bool kn), (60, .bool (needV op)), (62, .int .i64 v), (59, .bool x)]) σ') ?_ ?_
  · rintro σ' w5 ⟨kn, x, rfl, hx, hS, hsub⟩
    refine dr_sub hsub ?_
    subst hx
    refine dr_any 44 _ rfl (by decide +kernel) rfl rfl (fun w => val_build _ rfl rfl (built_part _ _ _ _ _) w) ?_
    refine dr_op 45 rfl (by decide +kernel) rfl rfl (opTo_storeN _ rfl rfl rfl rfl (by kernel_rfl) (hS.1.blk hc2 (by simp)) (by simp [partL, partZ]) (part_one _ _ _ _ _) ?_)
    intro w6 hs6 hk6 hc6
    refine ⟨fun h => absurd h (by simp), ?_⟩
    refine dr_done (by decide +kernel) ?_
    rw [splice_whole (by rfl)] at hc6
    exact rn_ret Try.func92 (.inr (.inr (.inl ⟨_, _, _, rfl, rfl, blk_loadVar hT hc6 rfl⟩))) ⟨rfl, (hkw.tr hS.1).trB hk6 hsz⟩
  intro fin4
  refine dr_with 10 15401752723455 (fun σ' w' => ∃ kn x : Bool, kn = knownS op ∧ x = (((be || zeroE e) && (bf || zeroE f)) && (bb || (lb.length : Int) == 0)) ∧ (Keep [] w3 w' ∧ Blk w' b [.int .i64 op, .int .i64 v, e0, e1, e2, e3, f0, f1, f2, f3, .slice ab lb.length capb, .slice ao lo.length capo] 119) ∧ Sub ([(2, .pointer (some ⟨b, 0, none⟩)), (4, .pointer (some ⟨c, 0, none⟩)), (6, .bool bf), (8, .bool bb), (9, .bool bo), (19, .int .i64 deep), (27, .bool kn), (60, .bool (needV op)), (62, .int .i64 v), (51, .bool x)]) σ') ?_ ?_
  · rintro σ' w5 ⟨kn, x, rfl, hx, hS, hsub⟩
    refine dr_sub hsub ?_
    cases x with
    | false =>
      refine dr_not 33 rfl (by decide +kernel) rfl rfl ?_
      refine dr_not 34 rfl (by decide +kernel) rfl rfl ?_
      refine dr_not 35 rfl (by decide +kernel) rfl rfl ?_
      refine dr_not 36 rfl (by decide +kernel) rfl rfl ?_
      refine dr_not 37 rfl (by decide +kernel) rfl rfl ?_
      refine dr_not 38 rfl (by decide +kernel) rfl rfl ?_
      refine dr_not 39 rfl (by decide +kernel) rfl rfl ?_
      refine dr_pure 40 hT rfl (by decide +kernel) rfl rfl rfl ?_
      exact fin4 _ _ ⟨_, _, rfl, by simp [← hx], hS, rfl, rfl, rfl, rfl, rfl, rfl, rfl, rfl, rfl, rfl, trivial⟩
    | true =>
      refine dr_pure 33 hT rfl (by decide +kernel) rfl rfl rfl ?_
      refine dr_pure 34 hT rfl (by decide +kernel) rfl rfl rfl ?_
      cases bo with
      | true =>
        refine dr_not 35 rfl (by decide +kernel) rfl rfl ?_
        refine dr_not 36 rfl (by decide +kernel) rfl rfl ?_
        refine dr_not 37 rfl (by decide +kernel) rfl rfl ?_
        refine dr_not 38 rfl (by decide +kernel) rfl rfl ?_
        refine dr_pure 39 hT rfl (by decide +kernel) rfl rfl rfl ?_
        refine dr_pure 40 hT rfl (by decide +kernel) rfl rfl rfl ?_
        exact fin4 _ _ ⟨_, _, rfl, by simp [← hx], hS, rfl, rfl, rfl, rfl, rfl, rfl, rfl, rfl, rfl, rfl, trivial⟩
      | false =>
        refine dr_pure 35 hT rfl (by decide +kernel) rfl rfl rfl ?_
        refine dr_val 36 _ rfl (by decide +kernel) rfl rfl (fun w9 hS9 => val_load1 hT rfl rfl rfl (Blk.cell hS9.2 (by rfl))) hS ?_
        refine dr_pure 37 hT rfl (by decide +kernel) rfl rfl rfl ?_
        refine dr_any 38 _ rfl (by decide +kernel) rfl rfl (fun w => val_int _ _ _ _ rfl rfl rfl (by rfl) w) ?_
        refine dr_pure 39 hT rfl (by decide +kernel) rfl rfl rfl ?_
        refine dr_pure 40 hT rfl (by decide +kernel) rfl rfl rfl ?_
        exact fin4 _ _ ⟨_, _, rfl, by simp [← hx], hS, rfl, rfl, rfl, rfl, rfl, rfl, rfl, rfl, rfl, rfl, trivial⟩
  intro fin3
  clear fin4
  refine dr_with 19 15393179566079 (fun σ' w' => ∃ kn x : Bool, kn = knownS op ∧ x = ((be || zeroE e) && (bf || zeroE f)) ∧ (Keep [] w3 w' ∧ Blk w' b [.int .i64 op, .int .i64 v, e0, e1, e2, e3, f0, f1, f2, f3, .slice ab lb.length capb, .slice ao lo.length capo] 119) ∧ Sub ([(2, .pointer (some ⟨b, 0, none⟩)), (4, .pointer (some ⟨c, 0, none⟩)), (6, .bool bf), (8, .bool bb), (9, .bool bo), (19, .int .i64 deep), (27, .bool kn), (60, .bool (needV op)), (62, .int .i64 v), (42, .bool x)]) σ') ?_ ?_
  · rintro σ' w5 ⟨kn, x, rfl, hx, hS, hsub⟩
    refine dr_sub hsub ?_
    cases x with
    | false =>
      refine dr_not 24 rfl (by decide +kernel) rfl rfl ?_
      refine dr_not 25 rfl (by decide +kernel) rfl rfl ?_
      refine dr_not 26 rfl (by decide +kernel) rfl rfl ?_
      refine dr_not 27 rfl (by decide +kernel) rfl rfl ?_
      refine dr_not 28 rfl (by decide +kernel) rfl rfl ?_
      refine dr_not 29 rfl (by decide +kernel) rfl rfl ?_
      refine dr_not 30 rfl (by decide +kernel) rfl rfl ?_
      refine dr_pure 31 hT rfl (by decide +kernel) rfl rfl rfl ?_
      refine dr_pure 32 hT rfl (by decide +kernel) rfl rfl rfl ?_
      exact fin3 _ _ ⟨_, _, rfl, by simp [← hx], hS, rfl, rfl, rfl, rfl, rfl, rfl, rfl, rfl, rfl, rfl, trivial⟩
    | true =>
      refine dr_pure 24 hT rfl (by decide +kernel) rfl rfl rfl ?_
      refine dr_pure 25 hT rfl (by decide +kernel) rfl rfl rfl ?_
      cases bb with
      | true =>
        refine dr_not 26 rfl (by decide +kernel) rfl rfl ?_
        refine dr_not 27 rfl (by decide +kernel) rfl rfl ?_
        refine dr_not 28 rfl (by decide +kernel) rfl rfl ?_
        refine dr_not 29 rfl (by decide +kernel) rfl rfl ?_
        refine dr_pure 30 hT rfl (by decide +kernel) rfl rfl rfl ?_
        refine dr_pure 31 hT rfl (by decide +kernel) rfl rfl rfl ?_
        refine dr_pure 32 hT rfl (by decide +kernel) rfl rfl rfl ?_
        exact fin3 _ _ ⟨_, _, rfl, by simp [← hx], hS, rfl, rfl, rfl, rfl, rfl, rfl, rfl, rfl, rfl, rfl, trivial⟩
      | false =>
        refine dr_pure 26 hT rfl (by decide +kernel) rfl rfl rfl ?_
        refine dr_val 27 _ rfl (by decide +kernel) rfl rfl (fun w9 hS9 => val_load1 hT rfl rfl rfl (Blk.cell hS9.2 (by rfl))) hS ?_
        refine dr_pure 28 hT rfl (by decide +kernel) rfl rfl rfl ?_
        refine dr_any 29 _ rfl (by decide +kernel) rfl rfl (fun w => val_int _ _ _ _ rfl rfl rfl (by rfl) w) ?_
        refine dr_pure 30 hT rfl (by decide +kernel) rfl rfl rfl ?_
        refine dr_pure 31 hT rfl (by decide +kernel) rfl rfl rfl ?_
        refine dr_pure 32 hT rfl (by decide +kernel) rfl rfl rfl ?_
        exact fin3 _ _ ⟨_, _, rfl, by simp [← hx], hS, rfl, rfl, rfl, rfl, rfl, rfl, rfl, rfl, rfl, rfl, trivial⟩
  intro fin2
  clear fin3
  refine dr_with 27 15393162854399 (fun σ' w' => ∃ kn x : Bool, kn = knownS op ∧ x = (be || zeroE e) ∧ (Keep [] w3 w' ∧ Blk w' b [.int .i64 op, .int .i64 v, e0, e1, e2, e3, f0, f1, f2, f3, .slice ab lb.length capb, .slice ao lo.length capo] 119) ∧ Sub ([(2, .pointer (some ⟨b, 0, none⟩)), (4, .pointer (some ⟨c, 0, none⟩)), (6, .bool bf), (8, .bool bb), (9, .bool bo), (19, .int .i64 deep), (27, .bool kn), (60, .bool (needV op)), (62, .int .i64 v), (34, .bool x)]) σ') ?_ ?_
  · rintro σ' w5 ⟨kn, x, rfl, hx, hS, hsub⟩
    refine dr_sub hsub ?_
    cases x with
    | false =>
      refine dr_not 16 rfl (by decide +kernel) rfl rfl ?_
      refine dr_not 17 rfl (by decide +kernel) rfl rfl ?_
      refine dr_not 18 rfl (by decide +kernel) rfl rfl ?_
      refine dr_not 19 rfl (by decide +kernel) rfl rfl ?_
      refine dr_not 20 rfl (by decide +kernel) rfl rfl ?_
      refine dr_not 21 rfl (by decide +kernel) rfl rfl ?_
      refine dr_pure 22 hT rfl (by decide +kernel) rfl rfl rfl ?_
      refine dr_pure 23 hT rfl (by decide +kernel) rfl rfl rfl ?_
      exact fin2 _ _ ⟨_, _, rfl, by simp [← hx], hS, rfl, rfl, rfl, rfl, rfl, rfl, rfl, rfl, rfl, rfl, trivial⟩
    | true =>
      refine dr_pure 16 hT rfl (by decide +kernel) rfl rfl rfl ?_
      refine dr_pure 17 hT rfl (by decide +kernel) rfl rfl rfl ?_
      cases bf with
      | true =>
        refine dr_not 18 rfl (by decide +kernel) rfl rfl ?_
        refine dr_not 19 rfl (by decide +kernel) rfl rfl ?_
        refine dr_not 20 rfl (by decide +kernel) rfl rfl ?_
        refine dr_pure 21 hT rfl (by decide +kernel) rfl rfl rfl ?_
        refine dr_pure 22 hT rfl (by decide +kernel) rfl rfl rfl ?_
        refine dr_pure 23 hT rfl (by decide +kernel) rfl rfl rfl ?_
        exact fin2 _ _ ⟨_, _, rfl, by simp [← hx], hS, rfl, rfl, rfl, rfl, rfl, rfl, rfl, rfl, rfl, rfl, trivial⟩
      | false =>
        refine dr_pure 18 hT rfl (by decide +kernel) rfl rfl rfl ?_
        refine dr_val 19 _ rfl (by decide +kernel) rfl rfl (fun w9 hS9 => val_load [f0, f1, f2, f3] hT rfl rfl rfl (Blk.range hS9.2 (by rfl))) hS ?_
        refine dr_op 20 rfl (by decide +kernel) rfl rfl (opTo_call rfl rfl rfl rfl (by decide +kernel) ((isZero_ret (hf3.keep hS.1 hF3.stays)).mono ?_))
        rintro v6 w6 ⟨rfl, hk6⟩
        replace hS := And.intro (hS.1.tr hk6) (hk6.blk hS.2 (by simp))
        refine ⟨fun _ => hS, ?_⟩
        refine dr_pure 21 hT rfl (by decide +kernel) rfl rfl rfl ?_
        refine dr_pure 22 hT rfl (by decide +kernel) rfl rfl rfl ?_
        refine dr_pure 23 hT rfl (by decide +kernel) rfl rfl rfl ?_
        exact fin2 _ _ ⟨_, _, rfl, by simp [← hx], hS, rfl, rfl, rfl, rfl, rfl, rfl, rfl, rfl, rfl, rfl, trivial⟩
  intro fin1
  clear fin2
  refine dr_with 34 15393162789375 (fun σ' w' => ∃ kn x : Bool, kn = knownS op ∧ x = (true) ∧ (Keep [] w3 w' ∧ Blk w' b [.int .i64 op, .int .i64 v, e0, e1, e2, e3, f0, f1, f2, f3, .slice ab lb.length capb, .slice ao lo.length capo] 119) ∧ Sub ([(2, .pointer (some ⟨b, 0, none⟩)), (4, .pointer (some ⟨c, 0, none⟩)), (6, .bool bf), (8, .bool bb), (9, .bool bo), (19, .int .i64 deep), (27, .bool kn), (60, .bool (needV op)), (62, .int .i64 v), (5, .bool be)]) σ') ?_ ?_
  · rintro σ' w5 ⟨kn, x, rfl, hx, hS, hsub⟩
    refine dr_sub hsub ?_
    refine dr_pure 9 hT rfl (by decide +kernel) rfl rfl rfl ?_
    refine dr_pure 10 hT rfl (by decide +kernel) rfl rfl rfl ?_
    cases be with
    | true =>
      refine dr_not 11 rfl (by decide +kernel) rfl rfl ?_
      refine dr_not 12 rfl (by decide +kernel) rfl rfl ?_
      refine dr_not 13 rfl (by decide +kernel) rfl rfl ?_
      refine dr_pure 14 hT rfl (by decide +kernel) rfl rfl rfl ?_
      refine dr_pure 15 hT rfl (by decide +kernel) rfl rfl rfl ?_
      exact fin1 _ _ ⟨_, _, rfl, rfl, hS, rfl, rfl, rfl, rfl, rfl, rfl, rfl, rfl, rfl, rfl, trivial⟩
    | false =>
      refine dr_pure 11 hT rfl (by decide +kernel) rfl rfl rfl ?_
      refine dr_val 12 _ rfl (by decide +kernel) rfl rfl (fun w9 hS9 => val_load [e0, e1, e2, e3] hT rfl rfl rfl (Blk.range hS9.2 (by rfl))) hS ?_
      refine dr_op 13 rfl (by decide +kernel) rfl rfl (opTo_call rfl rfl rfl rfl (by decide +kernel) ((isZero_ret (he3.keep hS.1 hF3.stays)).mono ?_))
      rintro v6 w6 ⟨rfl, hk6⟩
      replace hS := And.intro (hS.1.tr hk6) (hk6.blk hS.2 (by simp))
      refine ⟨fun _ => hS, ?_⟩
      refine dr_pure 14 hT rfl (by decide +kernel) rfl rfl rfl ?_
      refine dr_pure 15 hT rfl (by decide +kernel) rfl rfl rfl ?_
      exact fin1 _ _ ⟨_, _, rfl, rfl, hS, rfl, rfl, rfl, rfl, rfl, rfl, rfl, rfl, rfl, rfl, trivial⟩
  intro fin0
  clear fin1
  refine dr_pure 0 hT rfl (by decide +kernel) rfl rfl rfl ?_
  refine dr_pure 1 hT rfl (by decide +kernel) rfl rfl rfl ?_
  refine dr_val 2 _ rfl (by decide +kernel) rfl rfl (fun w9 hS9 => val_load1 hT rfl rfl rfl (Blk.cell hS9.2 (by rfl))) hS ?_
  refine dr_pure 41 hT rfl (by decide +kernel) rfl rfl rfl ?_
  refine dr_pure 42 hT rfl (by decide +kernel) rfl rfl rfl ?_
  refine dr_val 43 _ rfl (by decide +kernel) rfl rfl (fun w9 hS9 => val_load1 hT rfl rfl rfl (Blk.cell hS9.2 (by rfl))) hS ?_
  by_cases h1 : op ≥ 1
  · refine dr_yes 3 rfl (by decide +kernel) rfl rfl rfl rfl rfl (by first | (simp only [cmpP]; omega) | (simp [cmpP]; done) | (simp [cmpP]; omega)) ?_
    refine dr_pure 4 hT rfl (by decide +kernel) rfl rfl rfl ?_
    refine dr_pure 5 hT rfl (by decide +kernel) rfl rfl rfl ?_
    refine dr_val 6 _ rfl (by decide +kernel) rfl rfl (fun w9 hS9 => val_load1 hT rfl rfl rfl (Blk.cell hS9.2 (by rfl))) hS ?_
    refine dr_any 7 _ rfl (by decide +kernel) rfl rfl (fun w => val_int _ _ _ _ rfl rfl rfl (by rfl) w) ?_
    refine dr_pure 8 hT rfl (by decide +kernel) rfl rfl rfl ?_
    exact fin0 _ _ ⟨_, true, by simp [knownS]; omega, rfl, hS, rfl, rfl, rfl, rfl, rfl, rfl, rfl, rfl, rfl, rfl, trivial⟩
  · refine dr_no 3 rfl (by decide +kernel) rfl rfl rfl rfl rfl rfl (by first | (simp only [cmpP]; omega) | (simp [cmpP]; done) | (simp [cmpP]; omega)) ?_
    refine dr_pure 4 hT rfl (by decide +kernel) rfl rfl rfl ?_
    refine dr_not 5 rfl (by decide +kernel) rfl rfl ?_
    refine dr_not 6 rfl (by decide +kernel) rfl rfl ?_
    refine dr_not 7 rfl (by decide +kernel) rfl rfl ?_
    refine dr_pure 8 hT rfl (by decide +kernel) rfl rfl rfl ?_
    exact fin0 _ _ ⟨_, true, by simp [knownS]; omega, rfl, hS, rfl, rfl, rfl, rfl, rfl, rfl, rfl, rfl, rfl, rfl, trivial⟩
end E
end Go.Proofs.Ytpbdjpoohpocfab
