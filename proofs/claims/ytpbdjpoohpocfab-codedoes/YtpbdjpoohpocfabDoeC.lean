/- The walk of CodeDoes: it tells true. -/
import Derived.Test.YtpbdjpoohpocfabRfE
namespace Go.Proofs.Ytpbdjpoohpocfab
set_option maxRecDepth 20000
set_option maxHeartbeats 4000000
namespace E
open Go.Proofs

theorem codeDoes_ret {F : Nat → Prop} {w : World} {x y : Value} {vs vs' : List VarT} {body body' : List ST} (h : ProgV F w x vs body) (h' : ProgV F w y vs' body') (hF : In F w) (op v : Int) (s : ByteArray) :
    Ret Try.prog 7 [x, y, .int .i64 op, .int .i64 v, .string s] w fun r w' => r = .bool true ∧ Keep [] w w' := by
  have hh := h
  have hh' := h'
  obtain ⟨vv, bv, rfl, hv, hb⟩ := h
  obtain ⟨vv', bv', rfl, hv', hb'⟩ := h'
  obtain ⟨av, capv, rfl⟩ := hv.form
  obtain ⟨ab, capb, rfl⟩ := hb.form
  obtain ⟨av', capv', rfl⟩ := hv'.form
  obtain ⟨ab', capb', rfl⟩ := hb'.form
  refine ret_of 143 Try.func7 rfl rfl (by simp) ?_
  (repeat (first | refine pl_pure hT rfl rfl rfl ?_ | refine pl_nil ?_ | refine rn_seq ?_ | refine rn_plain ?_ | refine rn_block ?_ | refine rn_inBlock ?_ | refine rn_skip ?_ | refine rn_true rfl ?_ | refine rn_false rfl ?_ | refine rn_exit rfl ?_ | refine pl_not rfl rfl ?_))
  refine pl_op rfl rfl (opTo_boxN [.slice av vs.length capv, .slice ab body.length capb] rfl rfl rfl ?_)
  intro w1 p hp hs1 hk1 hP1'
  refine pl_op rfl rfl (opTo_boxN [.slice av' vs'.length capv', .slice ab' body'.length capb'] rfl rfl rfl ?_)
  intro w2 q hq hs2 hk2' hQ2
  have hP2 := hk2'.blk hP1' (by simp)
  have hk2 := hk1.tr hk2'
  clear hP1' hk1 hk2'
  (repeat (first | refine pl_pure hT rfl rfl rfl ?_ | refine pl_nil ?_ | refine rn_seq ?_ | refine rn_plain ?_ | refine rn_block ?_ | refine rn_inBlock ?_ | refine rn_skip ?_ | refine rn_true rfl ?_ | refine rn_false rfl ?_ | refine rn_exit rfl ?_ | refine pl_not rfl rfl ?_))
  refine pl_op rfl rfl (opTo_call rfl rfl rfl rfl (by decide +kernel) ((begun_ret w2).mono ?_))
  rintro v3 w3 ⟨rfl, hk3'⟩
  have hP3 := hk3'.blk hP2 (by simp)
  have hQ3 := hk3'.blk hQ2 (by simp)
  have hk3 := hk2.tr hk3'
  (repeat (first | refine pl_pure hT rfl rfl rfl ?_ | refine pl_nil ?_ | refine rn_seq ?_ | refine rn_plain ?_ | refine rn_block ?_ | refine rn_inBlock ?_ | refine rn_skip ?_ | refine rn_true rfl ?_ | refine rn_false rfl ?_ | refine rn_exit rfl ?_ | refine pl_not rfl rfl ?_))
  refine pl_val _ rfl rfl (val_load [.slice av vs.length capv, .slice ab body.length capb] hT rfl rfl rfl (hP3.range (by rfl))) ?_
  refine pl_op rfl rfl (opTo_call rfl rfl rfl rfl (by decide +kernel) ((great_ret (hh.keep hk3 hF.stays) (hF.keep hk3)).mono ?_))
  rintro v4 w4 ⟨⟨g1, rfl, hg1⟩, hk4'⟩
  have hP4 := hk4'.blk hP3 (by simp)
  have hQ4 := hk4'.blk hQ3 (by simp)
  have hk4 := hk3.tr hk4'
  cases g1 with
  | true =>
    (repeat (first | refine pl_pure hT rfl rfl rfl ?_ | refine pl_nil ?_ | refine rn_seq ?_ | refine rn_plain ?_ | refine rn_block ?_ | refine rn_inBlock ?_ | refine rn_skip ?_ | refine rn_true rfl ?_ | refine rn_false rfl ?_ | refine rn_exit rfl ?_ | refine pl_not rfl rfl ?_))
    exact rn_ret Try.func7 (.inl ⟨_, rfl, rfl⟩) ⟨rfl, hk4⟩
  | false =>
    obtain ⟨h30, hnm, hsz⟩ := hg1 rfl
    (repeat (first | refine pl_pure hT rfl rfl rfl ?_ | refine pl_nil ?_ | refine rn_seq ?_ | refine rn_plain ?_ | refine rn_block ?_ | refine rn_inBlock ?_ | refine rn_skip ?_ | refine rn_true rfl ?_ | refine rn_false rfl ?_ | refine rn_exit rfl ?_ | refine pl_not rfl rfl ?_))
    refine pl_val _ rfl rfl (val_load [.slice av' vs'.length capv', .slice ab' body'.length capb'] hT rfl rfl rfl (hQ4.range (by rfl))) ?_
    refine pl_op rfl rfl (opTo_call rfl rfl rfl rfl (by decide +kernel) ((great_ret (hh'.keep hk4 hF.stays) (hF.keep hk4)).mono ?_))
    rintro v5 w5 ⟨⟨g2, rfl, hg2⟩, hk5'⟩
    have hP5 := hk5'.blk hP4 (by simp)
    have hQ5 := hk5'.blk hQ4 (by simp)
    have hk5 := hk4.tr hk5'
    cases g2 with
    | true =>
      (repeat (first | refine pl_pure hT rfl rfl rfl ?_ | refine pl_nil ?_ | refine rn_seq ?_ | refine rn_plain ?_ | refine rn_block ?_ | refine rn_inBlock ?_ | refine rn_skip ?_ | refine rn_true rfl ?_ | refine rn_false rfl ?_ | refine rn_exit rfl ?_ | refine pl_not rfl rfl ?_))
      exact rn_ret Try.func7 (.inl ⟨_, rfl, rfl⟩) ⟨rfl, hk5⟩
    | false =>
      obtain ⟨h30', hnm', hsz'⟩ := hg2 rfl
      (repeat (first | refine pl_pure hT rfl rfl rfl ?_ | refine pl_nil ?_ | refine rn_seq ?_ | refine rn_plain ?_ | refine rn_block ?_ | refine rn_inBlock ?_ | refine rn_skip ?_ | refine rn_true rfl ?_ | refine rn_false rfl ?_ | refine rn_exit rfl ?_ | refine pl_not rfl rfl ?_))
      refine pl_val _ rfl rfl (val_strLen s (by decide +kernel) rfl rfl w5) ?_
      by_cases hs1000 : s.size > 1000
      · refine pl_yes rfl rfl rfl rfl rfl (by first | (simp only [cmpP]; omega) | (simp [cmpP]; done) | (simp [cmpP]; omega)) ?_
        (repeat (first | refine pl_pure hT rfl rfl rfl ?_ | refine pl_nil ?_ | refine rn_seq ?_ | refine rn_plain ?_ | refine rn_block ?_ | refine rn_inBlock ?_ | refine rn_skip ?_ | refine rn_true rfl ?_ | refine rn_false rfl ?_ | refine rn_exit rfl ?_ | refine pl_not rfl rfl ?_))
        exact rn_ret Try.func7 (.inl ⟨_, rfl, rfl⟩) ⟨rfl, hk5⟩
      · refine pl_no rfl rfl rfl rfl rfl rfl (by first | (simp only [cmpP]; omega) | (simp [cmpP]; done) | (simp [cmpP]; omega)) ?_
        (repeat (first | refine pl_pure hT rfl rfl rfl ?_ | refine pl_nil ?_ | refine rn_seq ?_ | refine rn_plain ?_ | refine rn_block ?_ | refine rn_inBlock ?_ | refine rn_skip ?_ | refine rn_true rfl ?_ | refine rn_false rfl ?_ | refine rn_exit rfl ?_ | refine pl_not rfl rfl ?_))
        refine pl_val _ rfl rfl (val_load [.slice av vs.length capv, .slice ab body.length capb] hT rfl rfl rfl (hP5.range (by rfl))) ?_
        refine pl_op rfl rfl (opTo_call rfl rfl rfl rfl (by decide +kernel) ((Own_ret (hh.keep hk5 hF.stays) (hF.keep hk5) h30 (by omega)).mono ?_))
        rintro v6 w6 ⟨⟨vo, bo, g, ts, B1, rfl, hvo, hbo, her, hc1, hx1, hout, hB1, hB1'⟩, hk6'⟩
        obtain ⟨ao, co, rfl⟩ := hvo.form
        obtain ⟨abo, cbo, rfl⟩ := hbo.form
        have hP6 := hk6'.blk hP5 (by simp)
        have hQ6 := hk6'.blk hQ5 (by simp)
        have hk6 := hk5.tr hk6'
        refine pl_op rfl rfl (opTo_allocN _ rfl zero_prog ?_)
        intro w7 o ho hs7 hk7' hO7
        refine pl_op rfl rfl (opTo_storeN _ rfl rfl rfl rfl (by kernel_rfl) hO7 (by simp [progZ]) (by intro u hu; simp at hu; rcases hu with rfl | rfl <;> rfl) ?_)
        intro w8 hs8 hk8' hO8
        rw [splice_whole (by rfl)] at hO8
        have hk68 : Keep [] w6 w8 := hk7'.trB hk8' (by omega)
        have hP8 := hk68.blk hP6 (by simp)
        have hQ8 := hk68.blk hQ6 (by simp)
        have hk8 := hk6.tr hk68
        have hvo8 : VarsV (fun b => b < w8.heap.size) w8 (.slice ao vs.length co) vs := (hvo.keep hk68 (fun k hk => ⟨by omega, by simp⟩)).mono (fun b hb => by have := hk68.size; omega)
        have hbo8 := hbo.keep hk68
        have hszo : szSs (erSs ts) ≤ 1000 := by rw [her]; omega
        have hown : ProgV (fun b => b < w8.heap.size) w8 (.agg #[.slice ao vs.length co, .slice abo ts.length cbo]) vs body := ⟨_, _, rfl, hvo8, by rw [← her]; exact hbo8.plain⟩
        have hF8 := In.lt w8
        clear hk3' hk4' hk5' hk6' hk7' hk8' hO7 hP2 hP3 hP4 hP5 hP6 hQ2 hQ3 hQ4 hQ5 hQ6 hvo hbo hk68 hout hg1 hg2 hk2 hk3 hk4
        (repeat (first | refine pl_pure hT rfl rfl rfl ?_ | refine pl_nil ?_ | refine rn_seq ?_ | refine rn_plain ?_ | refine rn_block ?_ | refine rn_inBlock ?_ | refine rn_skip ?_ | refine rn_true rfl ?_ | refine rn_false rfl ?_ | refine rn_exit rfl ?_ | refine pl_not rfl rfl ?_))
        refine pl_op rfl rfl (opTo_call rfl rfl rfl rfl (by decide +kernel) ((has_ret op w8).mono ?_))
        rintro v9 w9 ⟨rfl, rfl⟩
        have hne := needC_all op
        (repeat (first | refine pl_pure hT rfl rfl rfl ?_ | refine pl_nil ?_ | refine rn_seq ?_ | refine rn_plain ?_ | refine rn_block ?_ | refine rn_inBlock ?_ | refine rn_skip ?_ | refine rn_true rfl ?_ | refine rn_false rfl ?_ | refine rn_exit rfl ?_ | refine pl_not rfl rfl ?_))
        have hNe := needed_ret op 101 w9
        rw [hne.1] at hNe
        refine pl_op rfl rfl (opTo_call rfl rfl rfl rfl (by decide +kernel) (hNe.mono ?_))
        rintro v10 w10 ⟨rfl, rfl⟩
        refine pl_val (.bool false) rfl rfl (val_neBool (needE op) (needE op) false (by decide +kernel) rfl rfl rfl (by simp) _) ?_
        (repeat (first | refine pl_pure hT rfl rfl rfl ?_ | refine pl_nil ?_ | refine rn_seq ?_ | refine rn_plain ?_ | refine rn_block ?_ | refine rn_inBlock ?_ | refine rn_skip ?_ | refine rn_true rfl ?_ | refine rn_false rfl ?_ | refine rn_exit rfl ?_ | refine pl_not rfl rfl ?_))
        have hNf := needed_ret op 102 w10
        rw [hne.2.1] at hNf
        refine pl_op rfl rfl (opTo_call rfl rfl rfl rfl (by decide +kernel) (hNf.mono ?_))
        rintro v11 w11 ⟨rfl, rfl⟩
        refine pl_val (.bool false) rfl rfl (val_neBool (needF op) (needF op) false (by decide +kernel) rfl rfl rfl (by simp) _) ?_
        (repeat (first | refine pl_pure hT rfl rfl rfl ?_ | refine pl_nil ?_ | refine rn_seq ?_ | refine rn_plain ?_ | refine rn_block ?_ | refine rn_inBlock ?_ | refine rn_skip ?_ | refine rn_true rfl ?_ | refine rn_false rfl ?_ | refine rn_exit rfl ?_ | refine pl_not rfl rfl ?_))
        have hNv := needed_ret op 118 w11
        rw [hne.2.2.1] at hNv
        refine pl_op rfl rfl (opTo_call rfl rfl rfl rfl (by decide +kernel) (hNv.mono ?_))
        rintro v12 w12 ⟨rfl, rfl⟩
        refine pl_val (.bool false) rfl rfl (val_neBool (needV op) (needV op) false (by decide +kernel) rfl rfl rfl (by simp) _) ?_
        (repeat (first | refine pl_pure hT rfl rfl rfl ?_ | refine pl_nil ?_ | refine rn_seq ?_ | refine rn_plain ?_ | refine rn_block ?_ | refine rn_inBlock ?_ | refine rn_skip ?_ | refine rn_true rfl ?_ | refine rn_false rfl ?_ | refine rn_exit rfl ?_ | refine pl_not rfl rfl ?_))
        have hNb := needed_ret op 98 w12
        rw [hne.2.2.2.1] at hNb
        refine pl_op rfl rfl (opTo_call rfl rfl rfl rfl (by decide +kernel) (hNb.mono ?_))
        rintro v13 w13 ⟨rfl, rfl⟩
        refine pl_val (.bool false) rfl rfl (val_neBool (needB op) (needB op) false (by decide +kernel) rfl rfl rfl (by simp) _) ?_
        (repeat (first | refine pl_pure hT rfl rfl rfl ?_ | refine pl_nil ?_ | refine rn_seq ?_ | refine rn_plain ?_ | refine rn_block ?_ | refine rn_inBlock ?_ | refine rn_skip ?_ | refine rn_true rfl ?_ | refine rn_false rfl ?_ | refine rn_exit rfl ?_ | refine pl_not rfl rfl ?_))
        have hNo := needed_ret op 111 w13
        rw [hne.2.2.2.2] at hNo
        refine pl_op rfl rfl (opTo_call rfl rfl rfl rfl (by decide +kernel) (hNo.mono ?_))
        rintro v14 w14 ⟨rfl, rfl⟩
        refine pl_val (.bool false) rfl rfl (val_neBool (needO op) (needO op) false (by decide +kernel) rfl rfl rfl (by simp) _) ?_
        clear hNe hNf hNv hNb hNo hne
        (repeat (first | refine pl_pure hT rfl rfl rfl ?_ | refine pl_nil ?_ | refine rn_seq ?_ | refine rn_plain ?_ | refine rn_block ?_ | refine rn_inBlock ?_ | refine rn_skip ?_ | refine rn_true rfl ?_ | refine rn_false rfl ?_ | refine rn_exit rfl ?_ | refine pl_not rfl rfl ?_))
        refine rn_draw (fun w' => Keep [] w14 w') [] hMix ?_
        have hS : Keep [] w14 w14.drew := (Keep.refl _ _).drew
        generalize w14.drew = w15 at *
        have ldO : ∀ w9, Keep [] w14 w9 → w9.rangeAt o 0 [.slice ao vs.length co, .slice abo ts.length cbo] := fun w9 hS9 => (hS9.blk hO8 (by simp)).range (by rfl)
        have ldP : ∀ w9, Keep [] w14 w9 → w9.rangeAt p 0 [.slice av vs.length capv, .slice ab body.length capb] := fun w9 hS9 => (hS9.blk hP8 (by simp)).range (by rfl)
        have ldQ : ∀ w9, Keep [] w14 w9 → w9.rangeAt q 0 [.slice av' vs'.length capv', .slice ab' body'.length capb'] := fun w9 hS9 => (hS9.blk hQ8 (by simp)).range (by rfl)
        refine dr_val 0 _ rfl (by decide +kernel) rfl rfl (fun w9 hS9 => val_load [.slice ao vs.length co, .slice abo ts.length cbo] hT rfl rfl rfl (ldO w9 hS9)) hS ?_
        refine dr_val 2 _ rfl (by decide +kernel) rfl rfl (fun w9 hS9 => val_load [.slice av vs.length capv, .slice ab body.length capb] hT rfl rfl rfl (ldP w9 hS9)) hS ?_
        refine dr_op 1 rfl (by decide +kernel) rfl rfl (opTo_call rfl rfl rfl rfl (by decide +kernel) ((check_ret (hown.keep hS hF8.stays) (hF8.keep hS) (by omega)).mono ?_))
        rintro v16 w16 ⟨rfl, hk16⟩
        replace hS := hS.tr hk16
        refine ⟨fun _ => hS, ?_⟩
        refine dr_op 3 rfl (by decide +kernel) rfl rfl (opTo_call rfl rfl rfl rfl (by decide +kernel) ((refFault_ret (hh.keep (hk8.tr hS) hF.stays) (hF.keep (hk8.tr hS)) hnm (by omega)).mono ?_))
        rintro v17 w17 ⟨rfl, hk17⟩
        replace hS := hS.tr hk17
        refine ⟨fun _ => hS, ?_⟩
        refine dr_no 4 rfl (by decide +kernel) rfl rfl rfl rfl rfl rfl (by first | (simp only [cmpP]; omega) | (simp [cmpP]; done) | (simp [cmpP]; omega)) ?_
        refine dr_pure 5 hT rfl (by decide +kernel) rfl rfl rfl ?_
        refine dr_pure 6 hT rfl (by decide +kernel) rfl rfl rfl ?_
        refine dr_pure 8 hT rfl (by decide +kernel) rfl rfl rfl ?_
        refine dr_op 7 rfl (by decide +kernel) rfl rfl (opTo_call rfl rfl rfl rfl (by decide +kernel) ((parts_ret op w17).mono ?_))
        rintro v18 w18 ⟨rfl, rfl⟩
        refine ⟨fun _ => hS, ?_⟩
        refine dr_op 9 rfl (by decide +kernel) rfl rfl (opTo_call rfl rfl rfl rfl (by decide +kernel) ((partsOf_ret op _).mono ?_))
        rintro v19 w19 ⟨rfl, rfl⟩
        refine ⟨fun _ => hS, ?_⟩
        refine dr_no 10 rfl (by decide +kernel) rfl rfl rfl rfl rfl rfl (by first | (simp only [cmpP]; omega) | (simp [cmpP]; done) | (simp [cmpP]; omega)) ?_
        refine dr_pure 11 hT rfl (by decide +kernel) rfl rfl rfl ?_
        refine dr_pure 12 hT rfl (by decide +kernel) rfl rfl rfl ?_
        refine dr_pure 13 hT rfl (by decide +kernel) rfl rfl rfl ?_
        refine dr_pure 15 hT rfl (by decide +kernel) rfl rfl rfl ?_
        refine dr_op 14 rfl (by decide +kernel) rfl rfl (opTo_call rfl rfl rfl rfl (by decide +kernel) ((name_ret s _).mono ?_))
        rintro v20 w20 ⟨rfl, rfl⟩
        refine ⟨fun _ => hS, ?_⟩
        refine dr_op 16 rfl (by decide +kernel) rfl rfl (opTo_call rfl rfl rfl rfl (by decide +kernel) ((nameText_ret s (by omega) _).mono ?_))
        rintro v21 w21 ⟨rfl, rfl⟩
        refine ⟨fun _ => hS, ?_⟩
        refine dr_any 17 (.bool false) rfl (by decide +kernel) rfl rfl (fun w => val_neBool (nameOk s) (nameOk s) false (by decide +kernel) rfl rfl rfl (by simp) w) ?_
        refine dr_pure 18 hT rfl (by decide +kernel) rfl rfl rfl ?_
        refine dr_pure 19 hT rfl (by decide +kernel) rfl rfl rfl ?_
        refine dr_val 20 _ rfl (by decide +kernel) rfl rfl (fun w9 hS9 => val_load [.slice ao vs.length co, .slice abo ts.length cbo] hT rfl rfl rfl (ldO w9 hS9)) hS ?_
        refine dr_val 21 _ rfl (by decide +kernel) rfl rfl (fun w9 hS9 => val_load [.slice av' vs'.length capv', .slice ab' body'.length capb'] hT rfl rfl rfl (ldQ w9 hS9)) hS ?_
        refine dr_val 23 _ rfl (by decide +kernel) rfl rfl (fun w9 hS9 => val_load [.slice av vs.length capv, .slice ab body.length capb] hT rfl rfl rfl (ldP w9 hS9)) hS ?_
        refine dr_val 24 _ rfl (by decide +kernel) rfl rfl (fun w9 hS9 => val_load [.slice av' vs'.length capv', .slice ab' body'.length capb'] hT rfl rfl rfl (ldQ w9 hS9)) hS ?_
        refine dr_op 22 rfl (by decide +kernel) rfl rfl (opTo_call rfl rfl rfl rfl (by decide +kernel) ((same_ret (hvo8.keep hS hF8.stays) (hF8.keep hS) (hbo8.keep hS) hc1 hx1 hszo (by omega) (hh'.keep (hk8.tr hS) hF.stays) (hF.keep (hk8.tr hS))).mono ?_))
        rintro v22 w22 ⟨rfl, hk22⟩
        replace hS := hS.tr hk22
        refine ⟨fun _ => hS, ?_⟩
        refine dr_op 25 rfl (by decide +kernel) rfl rfl (opTo_call rfl rfl rfl rfl (by decide +kernel) ((refSame_ret (hh.keep (hk8.tr hS) hF.stays) (hh'.keep (hk8.tr hS) hF.stays) (hF.keep (hk8.tr hS)) (hF.keep (hk8.tr hS)) (by omega) (by omega)).mono ?_))
        rintro v23 w23 ⟨rfl, hk23⟩
        replace hS := hS.tr hk23
        refine ⟨fun _ => hS, ?_⟩
        rw [her]
        refine dr_any 26 (.bool false) rfl (by decide +kernel) rfl rfl (fun w => val_neBool (eqP vs body vs' body') (eqP vs body vs' body') false (by decide +kernel) rfl rfl rfl (by simp) w) ?_
        refine dr_pure 27 hT rfl (by decide +kernel) rfl rfl rfl ?_
        refine dr_pure 28 hT rfl (by decide +kernel) rfl rfl rfl ?_
        refine dr_val 29 _ rfl (by decide +kernel) rfl rfl (fun w9 hS9 => val_load [.slice ao vs.length co, .slice abo ts.length cbo] hT rfl rfl rfl (ldO w9 hS9)) hS ?_
        refine dr_val 30 _ rfl (by decide +kernel) rfl rfl (fun w9 hS9 => val_load [.slice av vs.length capv, .slice ab body.length capb] hT rfl rfl rfl (ldP w9 hS9)) hS ?_
        refine dr_op 31 rfl (by decide +kernel) rfl rfl (opTo_call rfl rfl rfl rfl (by decide +kernel) ((refSame_ret (hown.keep hS hF8.stays) (hh.keep (hk8.tr hS) hF.stays) (hF8.keep hS) (hF.keep (hk8.tr hS)) (by omega) (by omega)).mono ?_))
        rintro v24 w24 ⟨rfl, hk24⟩
        replace hS := hS.tr hk24
        refine ⟨fun _ => hS, ?_⟩
        rw [eqP_refl]
        refine dr_pure 32 hT rfl (by decide +kernel) rfl rfl rfl ?_
        refine dr_pure 33 hT rfl (by decide +kernel) rfl rfl rfl ?_
        refine dr_done (by decide +kernel) ?_
        have hP24 := hS.blk hP8 (by simp)
        have hk24w := hk8.tr hS
        clear ldO ldP ldQ hown hbo8 hvo8 hO8 hP8 hQ8 hk16 hk17 hk22 hk23 hk24 hS hc1 hx1
        (repeat (first | refine pl_pure hT rfl rfl rfl ?_ | refine pl_nil ?_ | refine rn_seq ?_ | refine rn_plain ?_ | refine rn_block ?_ | refine rn_inBlock ?_ | refine rn_skip ?_ | refine rn_true rfl ?_ | refine rn_false rfl ?_ | refine rn_exit rfl ?_ | refine pl_not rfl rfl ?_))
        refine rn_ind (fun m σ w' => ∃ i : Nat, i ≤ vs.length ∧ m = vs.length - i ∧ σ = [(3, .int .i64 v), (5, .pointer (some ⟨p, 0, none⟩)), (17, .int .i64 (i : Nat))] ∧ (∀ y ∈ vs.take i, 0 ≤ y.2 ∧ y.2 ≤ 1000) ∧ w' = w24) vs.length _ ?_ ⟨0, by omega, by omega, rfl, by simp, rfl⟩ ?_
        · exact ⟨rfl, rfl, rfl, trivial⟩
        rintro m σ w25 ih ⟨i, hi, rfl, rfl, hall, rfl⟩
        (repeat (first | refine pl_pure hT rfl rfl rfl ?_ | refine pl_nil ?_ | refine rn_seq ?_ | refine rn_plain ?_ | refine rn_block ?_ | refine rn_inBlock ?_ | refine rn_skip ?_ | refine rn_true rfl ?_ | refine rn_false rfl ?_ | refine rn_exit rfl ?_ | refine pl_not rfl rfl ?_))
        refine pl_val _ rfl rfl (val_load1 hT rfl rfl rfl (hP24.cell rfl)) ?_
        (repeat (first | refine pl_pure hT rfl rfl rfl ?_ | refine pl_nil ?_ | refine rn_seq ?_ | refine rn_plain ?_ | refine rn_block ?_ | refine rn_inBlock ?_ | refine rn_skip ?_ | refine rn_true rfl ?_ | refine rn_false rfl ?_ | refine rn_exit rfl ?_ | refine pl_not rfl rfl ?_))
        by_cases hlt : i < vs.length
        · refine pl_yes rfl rfl rfl rfl rfl (by first | (simp only [cmpP]; omega) | (simp [cmpP]; done) | (simp [cmpP]; omega)) ?_
          (repeat (first | refine pl_pure hT rfl rfl rfl ?_ | refine pl_nil ?_ | refine rn_seq ?_ | refine rn_plain ?_ | refine rn_block ?_ | refine rn_inBlock ?_ | refine rn_skip ?_ | refine rn_true rfl ?_ | refine rn_false rfl ?_ | refine rn_exit rfl ?_ | refine pl_not rfl rfl ?_))
          refine pl_val _ rfl rfl (val_load1 hT rfl rfl rfl (hP24.cell rfl)) ?_
          (repeat (first | refine pl_pure hT rfl rfl rfl ?_ | refine pl_nil ?_ | refine rn_seq ?_ | refine rn_plain ?_ | refine rn_block ?_ | refine rn_inBlock ?_ | refine rn_skip ?_ | refine rn_true rfl ?_ | refine rn_false rfl ?_ | refine rn_exit rfl ?_ | refine pl_not rfl rfl ?_))
          have hget : vs[i]? = some vs[i] := List.getElem?_eq_getElem hlt
          obtain ⟨b1, q1, _, hvv, _, hr1⟩ := (hv.keep hk24w hF.stays).at hget
          cases hvv
          have hcell := hr1 1 (.int .i64 vs[i].2) rfl
          have hmem : ∀ y ∈ vs.take (i + 1), y ∈ vs.take i ∨ y = vs[i] := fun y hy => by
            rw [List.take_succ_eq_append_getElem hlt] at hy
            rcases List.mem_append.1 hy with hy | hy
            · exact .inl hy
            · simp at hy
              exact .inr hy
          generalize vs[i] = y at *
          refine pl_val _ rfl rfl (val_index i hT rfl rfl rfl rfl rfl hlt w25) ?_
          (repeat (first | refine pl_pure hT rfl rfl rfl ?_ | refine pl_nil ?_ | refine rn_seq ?_ | refine rn_plain ?_ | refine rn_block ?_ | refine rn_inBlock ?_ | refine rn_skip ?_ | refine rn_true rfl ?_ | refine rn_false rfl ?_ | refine rn_exit rfl ?_ | refine pl_not rfl rfl ?_))
          refine pl_val _ rfl rfl (val_load1 hT rfl rfl rfl (hcell)) ?_
          by_cases h1 : y.2 < 0
          · (repeat (first | refine pl_pure hT rfl rfl rfl ?_ | refine pl_nil ?_ | refine rn_seq ?_ | refine rn_plain ?_ | refine rn_block ?_ | refine rn_inBlock ?_ | refine rn_skip ?_ | refine rn_true rfl ?_ | refine rn_false rfl ?_ | refine rn_exit rfl ?_ | refine pl_not rfl rfl ?_ | refine pl_val _ rfl rfl (val_load1 hT rfl rfl rfl (Blk.cell (by assumption) (by rfl))) ?_ | refine pl_yes rfl rfl rfl rfl rfl (by first | (simp only [cmpP]; omega) | (simp [cmpP]; done) | (simp [cmpP]; omega)) ?_ | refine pl_no rfl rfl rfl rfl rfl rfl (by first | (simp only [cmpP]; omega) | (simp [cmpP]; done) | (simp [cmpP]; omega)) ?_))
            exact rn_ret Try.func7 (.inl ⟨_, rfl, rfl⟩) ⟨rfl, hk24w⟩
          · (repeat (first | refine pl_pure hT rfl rfl rfl ?_ | refine pl_nil ?_ | refine rn_seq ?_ | refine rn_plain ?_ | refine rn_block ?_ | refine rn_inBlock ?_ | refine rn_skip ?_ | refine rn_true rfl ?_ | refine rn_false rfl ?_ | refine rn_exit rfl ?_ | refine pl_not rfl rfl ?_ | refine pl_val _ rfl rfl (val_load1 hT rfl rfl rfl (Blk.cell (by assumption) (by rfl))) ?_ | refine pl_yes rfl rfl rfl rfl rfl (by first | (simp only [cmpP]; omega) | (simp [cmpP]; done) | (simp [cmpP]; omega)) ?_ | refine pl_no rfl rfl rfl rfl rfl rfl (by first | (simp only [cmpP]; omega) | (simp [cmpP]; done) | (simp [cmpP]; omega)) ?_))
            refine pl_val _ rfl rfl (val_index i hT rfl rfl rfl rfl rfl hlt w25) ?_
            (repeat (first | refine pl_pure hT rfl rfl rfl ?_ | refine pl_nil ?_ | refine rn_seq ?_ | refine rn_plain ?_ | refine rn_block ?_ | refine rn_inBlock ?_ | refine rn_skip ?_ | refine rn_true rfl ?_ | refine rn_false rfl ?_ | refine rn_exit rfl ?_ | refine pl_not rfl rfl ?_))
            refine pl_val _ rfl rfl (val_load1 hT rfl rfl rfl (hcell)) ?_
            by_cases h2 : y.2 > 1000
            · (repeat (first | refine pl_pure hT rfl rfl rfl ?_ | refine pl_nil ?_ | refine rn_seq ?_ | refine rn_plain ?_ | refine rn_block ?_ | refine rn_inBlock ?_ | refine rn_skip ?_ | refine rn_true rfl ?_ | refine rn_false rfl ?_ | refine rn_exit rfl ?_ | refine pl_not rfl rfl ?_ | refine pl_val _ rfl rfl (val_load1 hT rfl rfl rfl (Blk.cell (by assumption) (by rfl))) ?_ | refine pl_yes rfl rfl rfl rfl rfl (by first | (simp only [cmpP]; omega) | (simp [cmpP]; done) | (simp [cmpP]; omega)) ?_ | refine pl_no rfl rfl rfl rfl rfl rfl (by first | (simp only [cmpP]; omega) | (simp [cmpP]; done) | (simp [cmpP]; omega)) ?_))
              exact rn_ret Try.func7 (.inl ⟨_, rfl, rfl⟩) ⟨rfl, hk24w⟩
            · (repeat (first | refine pl_pure hT rfl rfl rfl ?_ | refine pl_nil ?_ | refine rn_seq ?_ | refine rn_plain ?_ | refine rn_block ?_ | refine rn_inBlock ?_ | refine rn_skip ?_ | refine rn_true rfl ?_ | refine rn_false rfl ?_ | refine rn_exit rfl ?_ | refine pl_not rfl rfl ?_ | refine pl_val _ rfl rfl (val_load1 hT rfl rfl rfl (Blk.cell (by assumption) (by rfl))) ?_ | refine pl_yes rfl rfl rfl rfl rfl (by first | (simp only [cmpP]; omega) | (simp [cmpP]; done) | (simp [cmpP]; omega)) ?_ | refine pl_no rfl rfl rfl rfl rfl rfl (by first | (simp only [cmpP]; omega) | (simp [cmpP]; done) | (simp [cmpP]; omega)) ?_))
              refine pl_num (((i + 1 : Nat) : Int)) rfl rfl rfl rfl rfl (by simp only [ariP]; omega) ?_
              (repeat (first | refine pl_pure hT rfl rfl rfl ?_ | refine pl_nil ?_ | refine rn_seq ?_ | refine rn_plain ?_ | refine rn_block ?_ | refine rn_inBlock ?_ | refine rn_skip ?_ | refine rn_true rfl ?_ | refine rn_false rfl ?_ | refine rn_exit rfl ?_ | refine pl_not rfl rfl ?_))
              refine rn_sub ?_ (ih (vs.length - (i + 1)) [(3, .int .i64 v), (5, .pointer (some ⟨p, 0, none⟩)), (17, .int .i64 ((i + 1 : Nat) : Int))] w25 (by omega) ⟨i + 1, by omega, rfl, rfl, fun z hz => ?_, rfl⟩)
              · exact ⟨rfl, rfl, rfl, trivial⟩
              · rcases hmem z hz with hz | rfl
                · exact hall z hz
                · omega
        · refine pl_no rfl rfl rfl rfl rfl rfl (by first | (simp only [cmpP]; omega) | (simp [cmpP]; done) | (simp [cmpP]; omega)) ?_
          (repeat (first | refine pl_pure hT rfl rfl rfl ?_ | refine pl_nil ?_ | refine rn_seq ?_ | refine rn_plain ?_ | refine rn_block ?_ | refine rn_inBlock ?_ | refine rn_skip ?_ | refine rn_true rfl ?_ | refine rn_false rfl ?_ | refine rn_exit rfl ?_ | refine pl_not rfl rfl ?_))
          rw [List.take_of_length_le (by omega)] at hall
          have hsized : Sized vs := ⟨h30, hall⟩
          refine rn_draw (fun w' => Keep [] w25 w') [] hMix ?_
          have hS : Keep [] w25 w25.drew := (Keep.refl _ _).drew
          generalize w25.drew = w26 at *
          have ldP : ∀ w9, Keep [] w25 w9 → w9.rangeAt p 0 [.slice av vs.length capv, .slice ab body.length capb] := fun w9 hS9 => (hS9.blk hP24 (by simp)).range (by rfl)
          refine dr_val 0 _ rfl (by decide +kernel) rfl rfl (fun w9 hS9 => val_load [.slice av vs.length capv, .slice ab body.length capb] hT rfl rfl rfl (ldP w9 hS9)) hS ?_
          refine dr_pure 1 hT rfl (by decide +kernel) rfl rfl rfl ?_
          refine dr_val 3 _ rfl (by decide +kernel) rfl rfl (fun w9 hS9 => val_load [.slice av vs.length capv, .slice ab body.length capb] hT rfl rfl rfl (ldP w9 hS9)) hS ?_
          refine dr_pure 4 hT rfl (by decide +kernel) rfl rfl rfl ?_
          refine dr_op 2 rfl (by decide +kernel) rfl rfl (opTo_call rfl rfl rfl rfl (by decide +kernel) ((cell_ret (hh.keep (hk24w.tr hS) hF.stays) (hF.keep (hk24w.tr hS)) hsized v).mono ?_))
          rintro v27 w27 ⟨rfl, hk27⟩
          replace hS := hS.tr hk27
          refine ⟨fun _ => hS, ?_⟩
          refine dr_op 5 rfl (by decide +kernel) rfl rfl (opTo_call rfl rfl rfl rfl (by decide +kernel) ((refCell_ret (hh.keep (hk24w.tr hS) hF.stays) (hF.keep (hk24w.tr hS)) hsized v).mono ?_))
          rintro v28 w28 ⟨rfl, hk28⟩
          replace hS := hS.tr hk28
          refine ⟨fun _ => hS, ?_⟩
          refine dr_yes 6 rfl (by decide +kernel) rfl rfl rfl rfl rfl (by first | (simp only [cmpP]; omega) | (simp [cmpP]; done) | (simp [cmpP]; omega)) ?_
          refine dr_pure 7 hT rfl (by decide +kernel) rfl rfl rfl ?_
          refine dr_val 8 _ rfl (by decide +kernel) rfl rfl (fun w9 hS9 => val_load [.slice av vs.length capv, .slice ab body.length capb] hT rfl rfl rfl (ldP w9 hS9)) hS ?_
          refine dr_val 10 _ rfl (by decide +kernel) rfl rfl (fun w9 hS9 => val_load [.slice av vs.length capv, .slice ab body.length capb] hT rfl rfl rfl (ldP w9 hS9)) hS ?_
          refine dr_pure 11 hT rfl (by decide +kernel) rfl rfl rfl ?_
          refine dr_val 12 _ rfl (by decide +kernel) rfl rfl (fun w9 hS9 => val_load1 hT rfl rfl rfl ((hS9.blk hP24 (by simp)).cell rfl)) hS ?_
          refine dr_pure 13 hT rfl (by decide +kernel) rfl rfl rfl ?_
          refine dr_op 9 rfl (by decide +kernel) rfl rfl (opTo_call rfl rfl rfl rfl (by decide +kernel) ((cells_ret (hh.keep (hk24w.tr hS) hF.stays) (hF.keep (hk24w.tr hS)) hsized).mono ?_))
          rintro v29 w29 ⟨rfl, hk29⟩
          replace hS := hS.tr hk29
          refine ⟨fun _ => hS, ?_⟩
          refine dr_op 14 rfl (by decide +kernel) rfl rfl (opTo_call rfl rfl rfl rfl (by decide +kernel) ((refCell_ret (hh.keep (hk24w.tr hS) hF.stays) (hF.keep (hk24w.tr hS)) hsized (vs.length : Nat)).mono ?_))
          rintro v30 w30 ⟨rfl, hk30⟩
          replace hS := hS.tr hk30
          refine ⟨fun _ => hS, ?_⟩
          refine dr_yes 15 rfl (by decide +kernel) rfl rfl rfl rfl rfl (by first | (simp only [cmpP]; omega) | (simp [cmpP]; done) | (simp [cmpP]; omega)) ?_
          refine dr_pure 16 hT rfl (by decide +kernel) rfl rfl rfl ?_
          refine dr_pure 17 hT rfl (by decide +kernel) rfl rfl rfl ?_
          refine dr_done (by decide +kernel) ?_
          (repeat (first | refine pl_pure hT rfl rfl rfl ?_ | refine pl_nil ?_ | refine rn_seq ?_ | refine rn_plain ?_ | refine rn_block ?_ | refine rn_inBlock ?_ | refine rn_skip ?_ | refine rn_true rfl ?_ | refine rn_false rfl ?_ | refine rn_exit rfl ?_ | refine pl_not rfl rfl ?_))
          exact rn_ret Try.func7 (.inl ⟨_, rfl, rfl⟩) ⟨rfl, hk24w.tr hS⟩

theorem codeDoes_in {w : World} {x y : Value} {vs vs' : List VarT} {body body' : List ST} (h : ProgV (fun b => b < w.heap.size) w x vs body) (h' : ProgV (fun b => b < w.heap.size) w y vs' body') (op v : Int) (s : ByteArray) :
    Ret Try.prog 7 [x, y, .int .i64 op, .int .i64 v, .string s] w fun r w' => r = .bool true ∧ Keep [] w w' := codeDoes_ret h h' (In.lt w) op v s
end E
end Go.Proofs.Ytpbdjpoohpocfab
