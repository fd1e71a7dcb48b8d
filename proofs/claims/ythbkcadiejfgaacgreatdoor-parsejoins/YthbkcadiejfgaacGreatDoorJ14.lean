/- Several texts in one: PlJ, RowT, PaM. -/
import Derived.Test.YthbkcadiejfgaacGreatDoorJ06
import Derived.Test.YthbkcadiejfgaacGreatDoorJ07
import Derived.Test.YthbkcadiejfgaacGreatDoorJ13
import Derived.Test.YthbkcadiejfgaacGreatDoorJ04
import Derived.Test.YthbkcadiejfgaacGreatDoorJ05
/- The law of joining. -/
namespace Go.Proofs.YthbkcadiejfgaacGreatDoor
set_option maxRecDepth 20000
set_option maxHeartbeats 4000000
namespace E
open Go.Proofs

theorem built_p1 (a : Option Addr) (m c : Nat) : Tryz.prog.built 26 [(0, .slice a m c)] = some [Value.slice a m c, .slice none 0 0].toArray := by kernel_rfl
theorem built_p2 (a b : Option Addr) (m c m' c' : Nat) : Tryz.prog.built 26 [(0, .slice a m c), (1, .slice b m' c')] = some [Value.slice a m c, .slice b m' c'].toArray := by kernel_rfl
theorem size_sl : sizeOk Tryz.prog 24 1 = true := by kernel_rfl
theorem row_len {F : Nat → Prop} {w : World} {ccs : List (List Value)} {l : List ST} (hl : ccs.length = l.length) (hc : ∀ i (hi : i < l.length), StmtV F w (ccs.getD i []) (l[i]'hi)) : ccs.flatten.length = l.length * 12 ∧ ∀ u ∈ ccs.flatten, u.oneCell' = true := by
  have hk : ∀ c ∈ ccs, c.length = 12 ∧ ∀ u ∈ c, u.oneCell' = true := fun c hm => by
    obtain ⟨i, hi, rfl⟩ := List.mem_iff_getElem.1 hm
    have h1 := hc i (by omega)
    rw [List.getD_eq_getElem?_getD, List.getElem?_eq_getElem hi] at h1
    exact ⟨h1.length, h1.one⟩
  refine ⟨by rw [flatten_length (fun c hc => (hk c hc).1), hl], fun u hu => ?_⟩
  obtain ⟨c, h1, h2⟩ := List.mem_flatten.1 hu
  exact (hk c h1).2 u h2

theorem parseJoins_ret (hC : PkC) (l : List UInt8) (k : Int) {w : World} (hw : Lw w) : Ret Tryz.prog 4 [.string (str l), .int .i64 k] w fun r w' => r = .bool true ∧ Keep [] w w' := by
  refine ret_of 110 Tryz.func4 rfl rfl (by simp) ?_
  (repeat (first | refine pl_pure hT rfl rfl rfl ?_ | refine pl_nil ?_ | refine rn_seq ?_ | refine rn_plain ?_ | refine rn_block ?_ | refine rn_inBlock ?_ | refine rn_skip ?_ | refine rn_true rfl ?_ | refine rn_false rfl ?_ | refine rn_exit rfl ?_ | refine pl_not rfl rfl ?_))
  refine pl_op rfl rfl (opTo_call (fst := []) (cap := []) rfl rfl rfl rfl (by decide +kernel) ((parseBegun_ret hC hw).mono ?_))
  rintro r w0 ⟨rfl, hk0⟩
  have hw0 := hw.keep hk0
  (repeat (first | refine pl_pure hT rfl rfl rfl ?_ | refine pl_nil ?_ | refine rn_seq ?_ | refine rn_plain ?_ | refine rn_block ?_ | refine rn_inBlock ?_ | refine rn_skip ?_ | refine rn_true rfl ?_ | refine rn_false rfl ?_ | refine rn_exit rfl ?_ | refine pl_not rfl rfl ?_))
  refine pl_val _ rfl rfl (val_len l (by decide +kernel) rfl rfl w0) ?_
  by_cases hl : 2900 < l.length
  · refine pl_yes rfl rfl rfl rfl rfl (by first | (simp only [cmpP]; omega) | (simp [cmpP]; done) | (simp [cmpP]; omega)) ?_
    (repeat (first | refine pl_pure hT rfl rfl rfl ?_ | refine pl_nil ?_ | refine rn_seq ?_ | refine rn_plain ?_ | refine rn_block ?_ | refine rn_inBlock ?_ | refine rn_skip ?_ | refine rn_true rfl ?_ | refine rn_false rfl ?_ | refine rn_exit rfl ?_ | refine pl_not rfl rfl ?_))
    exact rn_ret Tryz.func4 (.inl ⟨_, rfl, rfl⟩) ⟨rfl, hk0⟩
  refine pl_no rfl rfl rfl rfl rfl rfl (by first | (simp only [cmpP]; omega) | (simp [cmpP]; done) | (simp [cmpP]; omega)) ?_
  (repeat (first | refine pl_pure hT rfl rfl rfl ?_ | refine pl_nil ?_ | refine rn_seq ?_ | refine rn_plain ?_ | refine rn_block ?_ | refine rn_inBlock ?_ | refine rn_skip ?_ | refine rn_true rfl ?_ | refine rn_false rfl ?_ | refine rn_exit rfl ?_ | refine pl_not rfl rfl ?_))
  cases hX : parseOf l with
  | error e =>
    have he := parseOf_err hX
    refine pl_op rfl rfl (opTo_call (fst := []) (cap := []) rfl rfl rfl rfl (by decide +kernel) ((hC.parse l (by omega) hw0).mono ?_))
    rintro r w11 ⟨⟨x, F1, rfl, hprog1, hcap1, hF1⟩, hk10⟩
    rw [hX] at hprog1 ⊢
    have hq := hprog1
    obtain ⟨vv, bv, rfl, hv, hb⟩ := hq
    obtain ⟨av1, cv1, rfl⟩ := hv.form
    obtain ⟨ab1, cb1, rfl⟩ := hb.form
    clear hv hb
    have hin1 : In F1 w11 := fun c hc => (hF1 c hc).2
    (repeat (first | refine pl_pure hT rfl rfl rfl ?_ | refine pl_nil ?_ | refine rn_seq ?_ | refine rn_plain ?_ | refine rn_block ?_ | refine rn_inBlock ?_ | refine rn_skip ?_ | refine rn_true rfl ?_ | refine rn_false rfl ?_ | refine rn_exit rfl ?_ | refine pl_not rfl rfl ?_))
    refine pl_op rfl rfl (opTo_allocN _ rfl zero_pr ?_)
    intro w12 p1 hp10 hs12 hk12 hp2
    refine pl_op rfl rfl (opTo_allocN _ rfl zero_fault ?_)
    intro w13 f1 hf10 hs13 hk13 hf3
    have hp3 := hk13.blk hp2 (by simp)
    (repeat (first | refine pl_pure hT rfl rfl rfl ?_ | refine pl_nil ?_ | refine rn_seq ?_ | refine rn_plain ?_ | refine rn_block ?_ | refine rn_inBlock ?_ | refine rn_skip ?_ | refine rn_true rfl ?_ | refine rn_false rfl ?_ | refine rn_exit rfl ?_ | refine pl_not rfl rfl ?_))
    refine pl_op rfl rfl (opTo_storeN [.slice av1 ([] : List VarT).length cv1, .slice ab1 ([] : List ST).length cb1] rfl rfl rfl rfl size_pr hp3 (by simp [pz]) (one_pr _ _ _ _ _ _) ?_)
    intro w14 hs14 hk14 hp4
    rw [splice_whole (by rfl)] at hp4
    have hf4 := hk14.blk hf3 (by simp; omega)
    refine pl_op rfl rfl (opTo_storeN [.int .i64 e.1, .int .i64 e.2] rfl rfl rfl rfl size_fault hf4 (by simp) (one_fault _ _) ?_)
    intro w15 hs15 hk15 hf1
    rw [splice_whole (by rfl)] at hf1
    have hp1 := hk15.blk hp4 (by simp; omega)
    have hk1 : Keep [] w11 w15 := ((hk12.tr hk13).trB hk14 (by omega)).trB hk15 (by omega)
    clear hp2 hf3 hp3 hp4 hf4 hk12 hk13 hk14 hk15
    (repeat (first | refine pl_pure hT rfl rfl rfl ?_ | refine pl_nil ?_ | refine rn_seq ?_ | refine rn_plain ?_ | refine rn_block ?_ | refine rn_inBlock ?_ | refine rn_skip ?_ | refine rn_true rfl ?_ | refine rn_false rfl ?_ | refine rn_exit rfl ?_ | refine pl_not rfl rfl ?_))
    refine pl_val _ rfl rfl (val_load1 hT rfl rfl rfl (hf1.cell rfl)) ?_
    refine pl_yes rfl rfl rfl rfl rfl (by first | (simp only [cmpP]; omega) | (simp [cmpP]; done) | (simp [cmpP]; omega)) ?_
    (repeat (first | refine pl_pure hT rfl rfl rfl ?_ | refine pl_nil ?_ | refine rn_seq ?_ | refine rn_plain ?_ | refine rn_block ?_ | refine rn_inBlock ?_ | refine rn_skip ?_ | refine rn_true rfl ?_ | refine rn_false rfl ?_ | refine rn_exit rfl ?_ | refine pl_not rfl rfl ?_))
    exact rn_ret Tryz.func4 (.inl ⟨_, rfl, rfl⟩) ⟨rfl, (hk0.tr hk10).tr hk1⟩
  | ok p =>
    obtain ⟨vs, body⟩ := p
    obtain ⟨hsz, hv8, hlong, hpf⟩ := parseOf_size hX
    obtain ⟨hv8', hcv, kk, hcs⟩ := progFault_ok hpf
    have hn8 := nm8_of hcv
    have hsv := chkV_size hcv
    have hlenb := szSs_len body
    refine pl_op rfl rfl (opTo_call (fst := []) (cap := []) rfl rfl rfl rfl (by decide +kernel) ((hC.parse l (by omega) hw0).mono ?_))
    rintro r w11 ⟨⟨x, F1, rfl, hprog1, hcap1, hF1⟩, hk10⟩
    rw [hX] at hprog1 ⊢
    have hq := hprog1
    obtain ⟨vv, bv, rfl, hv, hb⟩ := hq
    obtain ⟨av1, cv1, rfl⟩ := hv.form
    obtain ⟨ab1, cb1, rfl⟩ := hb.form
    clear hv hb
    have hin1 : In F1 w11 := fun c hc => (hF1 c hc).2
    (repeat (first | refine pl_pure hT rfl rfl rfl ?_ | refine pl_nil ?_ | refine rn_seq ?_ | refine rn_plain ?_ | refine rn_block ?_ | refine rn_inBlock ?_ | refine rn_skip ?_ | refine rn_true rfl ?_ | refine rn_false rfl ?_ | refine rn_exit rfl ?_ | refine pl_not rfl rfl ?_))
    refine pl_op rfl rfl (opTo_allocN _ rfl zero_pr ?_)
    intro w12 p1 hp10 hs12 hk12 hp2
    refine pl_op rfl rfl (opTo_allocN _ rfl zero_fault ?_)
    intro w13 f1 hf10 hs13 hk13 hf3
    have hp3 := hk13.blk hp2 (by simp)
    (repeat (first | refine pl_pure hT rfl rfl rfl ?_ | refine pl_nil ?_ | refine rn_seq ?_ | refine rn_plain ?_ | refine rn_block ?_ | refine rn_inBlock ?_ | refine rn_skip ?_ | refine rn_true rfl ?_ | refine rn_false rfl ?_ | refine rn_exit rfl ?_ | refine pl_not rfl rfl ?_))
    refine pl_op rfl rfl (opTo_storeN [.slice av1 vs.length cv1, .slice ab1 body.length cb1] rfl rfl rfl rfl size_pr hp3 (by simp [pz]) (one_pr _ _ _ _ _ _) ?_)
    intro w14 hs14 hk14 hp4
    rw [splice_whole (by rfl)] at hp4
    have hf4 := hk14.blk hf3 (by simp; omega)
    refine pl_op rfl rfl (opTo_storeN [.int .i64 ((0, 0) : Flt).1, .int .i64 ((0, 0) : Flt).2] rfl rfl rfl rfl size_fault hf4 (by simp) (one_fault _ _) ?_)
    intro w15 hs15 hk15 hf1
    rw [splice_whole (by rfl)] at hf1
    have hp1 := hk15.blk hp4 (by simp; omega)
    have hk1 : Keep [] w11 w15 := ((hk12.tr hk13).trB hk14 (by omega)).trB hk15 (by omega)
    clear hp2 hf3 hp3 hp4 hf4 hk12 hk13 hk14 hk15
    have hk05 := (hk0.tr hk10).tr hk1
    have hcb : body.length ≤ cb1 := by
      obtain ⟨_, _, _, _, h1, h2⟩ := hcap1
      injection h1 with h1
      have h3 := congrArg (fun a : Array Value => a[1]?) h1
      simp at h3
      obtain ⟨_, h4, h5⟩ := h3
      have h6 : (prgOf (Except.ok (vs, body))).2.length = body.length := rfl
      omega
    obtain ⟨vvx, bvx, hxx, hvr, hbr⟩ : ProgV F1 w15 (.agg #[.slice av1 vs.length cv1, .slice ab1 body.length cb1]) vs body := hprog1.keep hk1 hin1.stays
    injection hxx with hxx
    have h3 := congrArg (fun a : Array Value => (a[0]?, a[1]?)) hxx
    simp at h3
    obtain ⟨h3, h4⟩ := h3
    subst h3 h4
    clear hxx
    have hin := hin1.keep hk1
    (repeat (first | refine pl_pure hT rfl rfl rfl ?_ | refine pl_nil ?_ | refine rn_seq ?_ | refine rn_plain ?_ | refine rn_block ?_ | refine rn_inBlock ?_ | refine rn_skip ?_ | refine rn_true rfl ?_ | refine rn_false rfl ?_ | refine rn_exit rfl ?_ | refine pl_not rfl rfl ?_))
    refine pl_val _ rfl rfl (val_load1 hT rfl rfl rfl (hf1.cell rfl)) ?_
    refine pl_no rfl rfl rfl rfl rfl rfl (by first | (simp only [cmpP]; omega) | (simp [cmpP]; done) | (simp [cmpP]; omega)) ?_
    (repeat (first | refine pl_pure hT rfl rfl rfl ?_ | refine pl_nil ?_ | refine rn_seq ?_ | refine rn_plain ?_ | refine rn_block ?_ | refine rn_inBlock ?_ | refine rn_skip ?_ | refine rn_true rfl ?_ | refine rn_false rfl ?_ | refine rn_exit rfl ?_ | refine pl_not rfl rfl ?_))
    have hm0 : 0 ≤ IntKind.u64.wrap k := by
      have e : IntKind.u64.wrap k = k % 18446744073709551616 := by simp [IntKind.wrap, IntKind.bits, IntKind.signed]
      rw [e]
      omega
    refine pl_val (.int .u64 (IntKind.u64.wrap k)) rfl rfl (val_conv .i64 .u64 k _ rfl rfl (by decide +kernel) rfl w15) ?_
    generalize IntKind.u64.wrap k = ku at *
    (repeat (first | refine pl_pure hT rfl rfl rfl ?_ | refine pl_nil ?_ | refine rn_seq ?_ | refine rn_plain ?_ | refine rn_block ?_ | refine rn_inBlock ?_ | refine rn_skip ?_ | refine rn_true rfl ?_ | refine rn_false rfl ?_ | refine rn_exit rfl ?_ | refine pl_not rfl rfl ?_))
    refine pl_val _ rfl rfl (val_load1 hT rfl rfl rfl (hp1.cell rfl)) ?_
    (repeat (first | refine pl_pure hT rfl rfl rfl ?_ | refine pl_nil ?_ | refine rn_seq ?_ | refine rn_plain ?_ | refine rn_block ?_ | refine rn_inBlock ?_ | refine rn_skip ?_ | refine rn_true rfl ?_ | refine rn_false rfl ?_ | refine rn_exit rfl ?_ | refine pl_not rfl rfl ?_))
    refine pl_num (((body.length + 1 : Nat) : Int)) rfl rfl rfl rfl rfl (by simp only [ariP]; omega) ?_
    refine pl_val (.int .u64 ((body.length + 1 : Nat) : Int)) rfl rfl (val_conv .i64 .u64 _ _ rfl rfl (by decide +kernel) (wrap_u64 (by omega) (by omega)) w15) ?_
    obtain ⟨n, hn, hnl⟩ : ∃ n : Nat, ku.tmod ((body.length + 1 : Nat) : Int) = (n : Int) ∧ n ≤ body.length := by
      have h1 : 0 ≤ ku.tmod ((body.length + 1 : Nat) : Int) := Int.tmod_nonneg _ hm0
      have h2 : ku.tmod ((body.length + 1 : Nat) : Int) < ((body.length + 1 : Nat) : Int) := Int.tmod_lt_of_pos _ (by omega)
      exact ⟨(ku.tmod ((body.length + 1 : Nat) : Int)).toNat, by omega, by omega⟩
    refine pl_val (.int .u64 (n : Nat)) rfl rfl (val_int .u64 _ _ _ rfl rfl rfl (by simp only [intOp]; rw [if_neg (by omega), hn]) w15) ?_
    refine pl_val (.int .i64 (n : Nat)) rfl rfl (val_conv .u64 .i64 _ _ rfl rfl (by decide +kernel) (wrap_i64 (by omega) (by omega)) w15) ?_
    obtain ⟨bn, hbn⟩ : ∃ bn, bn = body.take n := ⟨_, rfl⟩
    have hbnl : bn.length = n := by rw [hbn]; simp; omega
    have hszn : szSs bn ≤ 18000 := by rw [hbn]; have := szSs_take body n; omega
    have hlongn : longSs bn := by rw [hbn]; exact longSs_take n hlong
    have hpfn : progFault vs bn = 0 := by rw [hbn]; exact progFault_sub hpf (List.take_sublist _ _)
    have hpfz : progFault vs [] = 0 := progFault_sub hpf (List.nil_sublist _)
    have hnm : ∀ y ∈ vs, y.1.size ≤ 100000 := fun y hy => by have := hn8 y hy; omega
    have hbnr : StmtsV F1 w15 (.slice ab1 n cb1) bn := by rw [hbn]; exact hbr.take hnl
    have hPn : ProgV F1 w15 (.agg #[.slice av1 vs.length cv1, .slice ab1 n cb1]) vs bn := ⟨_, _, rfl, hvr, hbnr⟩
    have hPz : ProgV F1 w15 (.agg #[.slice av1 vs.length cv1, .slice none 0 0]) vs [] := ⟨_, _, rfl, hvr, StmtsV.nil⟩
    have hw15 := hw.keep hk05
    obtain ⟨X1, hX1⟩ : ∃ X1, X1 = printedOf vs bn := ⟨_, rfl⟩
    obtain ⟨X2, hX2⟩ : ∃ X2, X2 = printedOf vs [] := ⟨_, rfl⟩
    (repeat (first | refine pl_pure hT rfl rfl rfl ?_ | refine pl_not rfl rfl ?_ | refine pl_nil ?_ | refine rn_inBlock ?_ | refine rn_skip ?_ | refine rn_true rfl ?_ | refine rn_false rfl ?_ | refine rn_exit rfl ?_))
    refine rn_seq ?_
    refine rn_with (fun σ' w' => ∃ f9, Blk w' f9 [.int .i64 (fltX X1).1, .int .i64 (fltX X1).2] 28 ∧ Keep [] w15 w' ∧ Sub [(0, .string (str l)), (5, .pointer (some ⟨p1, 0, none⟩)), (7, .int .i64 (n : Nat)), (8, .string (str (txtX X1))), (9, .pointer (some ⟨f9, 0, none⟩))] σ') ?_ ?_
    rotate_left
    · intro fin1
      refine rn_draw (fun w' => Keep [] w15 w') [13] hMix ?_
      have hS : Keep [] w15 w15.drew := (Keep.refl _ _).drew
      generalize w15.drew = w16 at *
      refine dr_with 2 4095 (fun σ' w' => ∃ f9, Blk w' f9 [.int .i64 0, .int .i64 0] 28 ∧ w15.heap.size ≤ f9 ∧ Keep [] w15 w' ∧ Sub [(0, .string (str l)), (5, .pointer (some ⟨p1, 0, none⟩)), (7, .int .i64 (n : Nat)), (47, .string (str (txtX X1))), (48, .agg #[.int .i64 (fltX X1).1, .int .i64 (fltX X1).2]), (9, .pointer (some ⟨f9, 0, none⟩))] σ') ?_ ?_
      · rintro σ' w17 ⟨f9, hf9, hf9w, hS, hsub⟩
        refine dr_sub hsub ?_
        refine dr_pure 12 hT rfl (by decide +kernel) rfl rfl rfl ?_
        refine dr_op 13 rfl (by decide +kernel) rfl rfl (opTo_storeN [.int .i64 (fltX X1).1, .int .i64 (fltX X1).2] rfl rfl rfl rfl size_fault hf9 (by simp) (one_fault _ _) ?_)
        intro w18 hs18 hk18 hf18
        rw [splice_whole (by rfl)] at hf18
        refine ⟨fun h => absurd (by simp) h, ?_⟩
        refine dr_done (by decide +kernel) ?_
        exact fin1 _ _ ⟨f9, hf18, hS.trB hk18 hf9w, rfl, rfl, rfl, rfl, rfl, trivial⟩
      intro f1'
      refine dr_pure 0 hT rfl (by decide +kernel) rfl rfl rfl ?_
      refine dr_val 1 _ rfl (by decide +kernel) rfl rfl (fun w9 hS9 => val_load1 hT rfl rfl rfl ((hS9.blk hp1 (by simp)).cell rfl)) hS ?_
      refine dr_pure 2 hT rfl (by decide +kernel) rfl rfl rfl ?_
      refine dr_val 3 _ rfl (by decide +kernel) rfl rfl (fun w9 hS9 => val_load1 hT rfl rfl rfl ((hS9.blk hp1 (by simp)).cell rfl)) hS ?_
      refine dr_pure 4 hT rfl (by decide +kernel) rfl rfl rfl ?_
      refine dr_any 5 _ rfl (by decide +kernel) rfl rfl (fun w => val_sliceTo n hT rfl rfl rfl rfl rfl (by omega) w) ?_
      refine dr_any 6 _ rfl (by decide +kernel) rfl rfl (fun w => val_build _ rfl rfl (built_p2 _ _ _ _ _ _) w) ?_
      refine dr_op2 7 11 rfl rfl (by decide +kernel) rfl rfl rfl rfl ?_ ?_
      · refine opTo_call (fst := []) (cap := []) rfl rfl rfl rfl (by decide +kernel) ((printed_ret (hPn.keep hS hin.stays) (hin.keep hS) (hw15.keep hS) hnm (by omega) hlongn).mono ?_)
        rintro r w17 ⟨rfl, hk17⟩
        rw [← hX1]
        refine ⟨fun _ => hS.tr hk17, ?_⟩
        refine dr_pure 8 hT rfl (by decide +kernel) rfl rfl rfl ?_
        refine dr_pure 9 hT rfl (by decide +kernel) rfl rfl rfl ?_
        refine dr_pure 10 hT rfl (by decide +kernel) rfl rfl rfl ?_
        refine dr_op 11 rfl (by decide +kernel) rfl rfl (opTo_allocN _ rfl zero_fault ?_)
        intro w18 f9 hf90 hs18 hk18 hf18
        refine ⟨fun _ => (hS.tr hk17).tr hk18, ?_⟩
        exact f1' _ _ ⟨f9, hf18, by have := (hS.tr hk17).size; omega, (hS.tr hk17).tr hk18, rfl, rfl, rfl, rfl, rfl, rfl, trivial⟩
      · refine opTo_allocN _ rfl zero_fault ?_
        intro w17 f9 hf90 hs17 hk17 hf17
        have hS2 := hS.tr hk17
        refine ⟨fun _ => hS2, ?_⟩
        refine dr_op 7 rfl (by decide +kernel) rfl rfl (opTo_call (fst := []) (cap := []) rfl rfl rfl rfl (by decide +kernel) ((printed_ret (hPn.keep hS2 hin.stays) (hin.keep hS2) (hw15.keep hS2) hnm (by omega) hlongn).mono ?_))
        rintro r w18 ⟨rfl, hk18⟩
        rw [← hX1]
        refine ⟨fun _ => hS2.tr hk18, ?_⟩
        refine dr_pure 8 hT rfl (by decide +kernel) rfl rfl rfl ?_
        refine dr_pure 9 hT rfl (by decide +kernel) rfl rfl rfl ?_
        refine dr_pure 10 hT rfl (by decide +kernel) rfl rfl rfl ?_
        exact f1' _ _ ⟨f9, hk18.blk hf17 (by simp), by have := hS.size; omega, hS2.tr hk18, rfl, rfl, rfl, rfl, rfl, rfl, trivial⟩
    rintro σ' w2 ⟨f9, hf9, hk2, hsub⟩
    refine rn_sub hsub ?_
    have hp2 := hk2.blk hp1 (by simp)
    (repeat (first | refine pl_pure hT rfl rfl rfl ?_ | refine pl_nil ?_ | refine rn_seq ?_ | refine rn_plain ?_ | refine rn_block ?_ | refine rn_inBlock ?_ | refine rn_skip ?_ | refine rn_true rfl ?_ | refine rn_false rfl ?_ | refine rn_exit rfl ?_ | refine pl_not rfl rfl ?_))
    refine pl_val _ rfl rfl (val_load1 hT rfl rfl rfl (hp2.cell rfl)) ?_
    refine pl_val _ rfl rfl (val_build _ rfl rfl (built_p1 _ _ _) w2) ?_
    refine pl_op rfl rfl (opTo_call (fst := []) (cap := []) rfl rfl rfl rfl (by decide +kernel) ((printed_ret (hPz.keep hk2 hin.stays) (hin.keep hk2) (hw15.keep hk2) hnm (by simp [szSs]) (by simp [longSs])).mono ?_))
    rintro r w3 ⟨rfl, hk3⟩
    rw [← hX2]
    (repeat (first | refine pl_pure hT rfl rfl rfl ?_ | refine pl_nil ?_ | refine rn_seq ?_ | refine rn_plain ?_ | refine rn_block ?_ | refine rn_inBlock ?_ | refine rn_skip ?_ | refine rn_true rfl ?_ | refine rn_false rfl ?_ | refine rn_exit rfl ?_ | refine pl_not rfl rfl ?_))
    refine pl_op rfl rfl (opTo_allocN _ rfl zero_fault ?_)
    intro w4 f11 hf110 hs4 hk4 hf4
    (repeat (first | refine pl_pure hT rfl rfl rfl ?_ | refine pl_nil ?_ | refine rn_seq ?_ | refine rn_plain ?_ | refine rn_block ?_ | refine rn_inBlock ?_ | refine rn_skip ?_ | refine rn_true rfl ?_ | refine rn_false rfl ?_ | refine rn_exit rfl ?_ | refine pl_not rfl rfl ?_))
    refine pl_op rfl rfl (opTo_storeN [.int .i64 (fltX X2).1, .int .i64 (fltX X2).2] rfl rfl rfl rfl size_fault hf4 (by simp) (one_fault _ _) ?_)
    intro w5 hs5 hk5 hf11
    rw [splice_whole (by rfl)] at hf11
    have hk25 : Keep [] w2 w5 := hk3.tr (hk4.trB hk5 (by omega))
    have hf9' := hk25.blk hf9 (by simp)
    have hvlen := printV_len vs hn8 hsv
    have e2 : X2 = .ok (printV vs) := by
      rw [hX2]
      unfold printedOf
      rw [hpfz, if_neg (by decide)]
      simp only [printB, List.append_nil]
      rw [if_neg (by omega)]
    obtain ⟨TT, hTT⟩ : ∃ TT, TT = printV vs ++ printB vs bn := ⟨_, rfl⟩
    have e1 : X1 = if 6000 < TT.length then .error (3, -1) else .ok TT := by
      rw [hX1, hTT]
      unfold printedOf
      rw [hpfn, if_neg (by decide)]
    have hk5w : Keep [] w w5 := hk05.tr (hk2.tr hk25)
    subst e2
    by_cases h6 : 6000 < TT.length
    · rw [if_pos h6] at e1
      subst e1
      have hf9q : Blk w5 f9 [.int .i64 3, .int .i64 (-1)] 28 := hf9'
      (repeat (first | refine pl_pure hT rfl rfl rfl ?_ | refine pl_nil ?_ | refine rn_seq ?_ | refine rn_plain ?_ | refine rn_block ?_ | refine rn_inBlock ?_ | refine rn_skip ?_ | refine rn_true rfl ?_ | refine rn_false rfl ?_ | refine rn_exit rfl ?_ | refine pl_not rfl rfl ?_))
      refine pl_val _ rfl rfl (val_load1 hT rfl rfl rfl (hf9q.cell rfl)) ?_
      refine pl_yes rfl rfl rfl rfl rfl (by first | (simp only [cmpP]; omega) | (simp [cmpP]; done) | (simp [cmpP]; omega)) ?_
      (repeat (first | refine pl_pure hT rfl rfl rfl ?_ | refine pl_nil ?_ | refine rn_seq ?_ | refine rn_plain ?_ | refine rn_block ?_ | refine rn_inBlock ?_ | refine rn_skip ?_ | refine rn_true rfl ?_ | refine rn_false rfl ?_ | refine rn_exit rfl ?_ | refine pl_not rfl rfl ?_))
      exact rn_ret Tryz.func4 (.inl ⟨_, rfl, rfl⟩) ⟨rfl, hk5w⟩
    rw [if_neg h6] at e1
    subst e1
    have hf9q : Blk w5 f9 [.int .i64 0, .int .i64 0] 28 := hf9'
    have hf11q : Blk w5 f11 [.int .i64 0, .int .i64 0] 28 := hf11
    (repeat (first | refine pl_pure hT rfl rfl rfl ?_ | refine pl_nil ?_ | refine rn_seq ?_ | refine rn_plain ?_ | refine rn_block ?_ | refine rn_inBlock ?_ | refine rn_skip ?_ | refine rn_true rfl ?_ | refine rn_false rfl ?_ | refine rn_exit rfl ?_ | refine pl_not rfl rfl ?_))
    refine pl_val _ rfl rfl (val_load1 hT rfl rfl rfl (hf9q.cell rfl)) ?_
    refine pl_no rfl rfl rfl rfl rfl rfl (by first | (simp only [cmpP]; omega) | (simp [cmpP]; done) | (simp [cmpP]; omega)) ?_
    (repeat (first | refine pl_pure hT rfl rfl rfl ?_ | refine pl_nil ?_ | refine rn_seq ?_ | refine rn_plain ?_ | refine rn_block ?_ | refine rn_inBlock ?_ | refine rn_skip ?_ | refine rn_true rfl ?_ | refine rn_false rfl ?_ | refine rn_exit rfl ?_ | refine pl_not rfl rfl ?_))
    refine pl_val _ rfl rfl (val_load1 hT rfl rfl rfl (hf11q.cell rfl)) ?_
    refine pl_no rfl rfl rfl rfl rfl rfl (by first | (simp only [cmpP]; omega) | (simp [cmpP]; done) | (simp [cmpP]; omega)) ?_
    (repeat (first | refine pl_pure hT rfl rfl rfl ?_ | refine pl_nil ?_ | refine rn_seq ?_ | refine rn_plain ?_ | refine rn_block ?_ | refine rn_inBlock ?_ | refine rn_skip ?_ | refine rn_true rfl ?_ | refine rn_false rfl ?_ | refine rn_exit rfl ?_ | refine pl_not rfl rfl ?_))
    refine pl_val _ rfl rfl (val_len TT (by decide +kernel) rfl rfl w5) ?_
    by_cases h29 : 2900 < TT.length
    · refine pl_yes rfl rfl rfl rfl rfl (by first | (simp only [cmpP]; omega) | (simp [cmpP]; done) | (simp [cmpP]; omega)) ?_
      (repeat (first | refine pl_pure hT rfl rfl rfl ?_ | refine pl_nil ?_ | refine rn_seq ?_ | refine rn_plain ?_ | refine rn_block ?_ | refine rn_inBlock ?_ | refine rn_skip ?_ | refine rn_true rfl ?_ | refine rn_false rfl ?_ | refine rn_exit rfl ?_ | refine pl_not rfl rfl ?_))
      exact rn_ret Tryz.func4 (.inl ⟨_, rfl, rfl⟩) ⟨rfl, hk5w⟩
    refine pl_no rfl rfl rfl rfl rfl rfl (by first | (simp only [cmpP]; omega) | (simp [cmpP]; done) | (simp [cmpP]; omega)) ?_
    (repeat (first | refine pl_pure hT rfl rfl rfl ?_ | refine pl_nil ?_ | refine rn_seq ?_ | refine rn_plain ?_ | refine rn_block ?_ | refine rn_inBlock ?_ | refine rn_skip ?_ | refine rn_true rfl ?_ | refine rn_false rfl ?_ | refine rn_exit rfl ?_ | refine pl_not rfl rfl ?_))
    have hTl : (printV vs).length ≤ TT.length := by rw [hTT]; simp
    refine pl_val _ rfl rfl (val_add l [10] rfl rfl rfl (by simp; omega) w5) ?_
    (repeat (first | refine pl_pure hT rfl rfl rfl ?_ | refine pl_nil ?_ | refine rn_seq ?_ | refine rn_plain ?_ | refine rn_block ?_ | refine rn_inBlock ?_ | refine rn_skip ?_ | refine rn_true rfl ?_ | refine rn_false rfl ?_ | refine rn_exit rfl ?_ | refine pl_not rfl rfl ?_))
    refine pl_val _ rfl rfl (val_len (printV vs) (by decide +kernel) rfl rfl w5) ?_
    refine pl_val _ rfl rfl (val_from TT (printV vs).length (by decide +kernel) rfl rfl rfl rfl hTl w5) ?_
    refine pl_val _ rfl rfl (val_add (l ++ [10]) _ rfl rfl rfl (by simp; omega) w5) ?_
    obtain ⟨T6, hT6⟩ : ∃ T6, T6 = (l ++ [10]) ++ TT.drop (printV vs).length := ⟨_, rfl⟩
    rw [← hT6]
    have hT6' : T6 = l ++ 10 :: printB vs bn := by rw [hT6, hTT, List.drop_left]; simp
    have hT6l : T6.length ≤ 6000 := by rw [hT6]; simp; omega
    obtain ⟨_, _, kn, hcn⟩ := progFault_ok hpfn
    have hjoin := parse_join hX hcn hlongn (by rw [← hT6']; exact hT6l)
    rw [← hT6'] at hjoin
    obtain ⟨⟨vs6, body6⟩, hP6⟩ : ∃ p, p = prgOf (parseOf T6) := ⟨_, rfl⟩
    obtain ⟨⟨fa, fb⟩, hfl6⟩ : ∃ f, f = fltOf (parseOf T6) := ⟨_, rfl⟩
    have hw12 := hw.keep hk5w
    refine pl_op rfl rfl (opTo_call (fst := []) (cap := []) rfl rfl rfl rfl (by decide +kernel) ((hC.parse T6 (by omega) hw12).mono ?_))
    rintro r w61 ⟨⟨x, F6, rfl, hprog6, hcap6, hF6⟩, hk60⟩
    rw [← hP6] at hprog6
    rw [← hfl6]
    have hq := hprog6
    obtain ⟨vv, bv, rfl, hv, hb⟩ := hq
    obtain ⟨av6, cv6, rfl⟩ := hv.form
    obtain ⟨ab6, cb6, rfl⟩ := hb.form
    clear hv hb
    have hin6 : In F6 w61 := fun c hc => (hF6 c hc).2
    (repeat (first | refine pl_pure hT rfl rfl rfl ?_ | refine pl_nil ?_ | refine rn_seq ?_ | refine rn_plain ?_ | refine rn_block ?_ | refine rn_inBlock ?_ | refine rn_skip ?_ | refine rn_true rfl ?_ | refine rn_false rfl ?_ | refine rn_exit rfl ?_ | refine pl_not rfl rfl ?_))
    refine pl_op rfl rfl (opTo_allocN _ rfl zero_pr ?_)
    intro w62 p6 hp60 hs62 hk62 hp2
    refine pl_op rfl rfl (opTo_allocN _ rfl zero_fault ?_)
    intro w63 f6 hf60 hs63 hk63 hf3
    have hp3 := hk63.blk hp2 (by simp)
    (repeat (first | refine pl_pure hT rfl rfl rfl ?_ | refine pl_nil ?_ | refine rn_seq ?_ | refine rn_plain ?_ | refine rn_block ?_ | refine rn_inBlock ?_ | refine rn_skip ?_ | refine rn_true rfl ?_ | refine rn_false rfl ?_ | refine rn_exit rfl ?_ | refine pl_not rfl rfl ?_))
    refine pl_op rfl rfl (opTo_storeN [.slice av6 vs6.length cv6, .slice ab6 body6.length cb6] rfl rfl rfl rfl size_pr hp3 (by simp [pz]) (one_pr _ _ _ _ _ _) ?_)
    intro w64 hs64 hk64 hp4
    rw [splice_whole (by rfl)] at hp4
    have hf4 := hk64.blk hf3 (by simp; omega)
    refine pl_op rfl rfl (opTo_storeN [.int .i64 ((fa, fb) : Flt).1, .int .i64 ((fa, fb) : Flt).2] rfl rfl rfl rfl size_fault hf4 (by simp) (one_fault _ _) ?_)
    intro w65 hs65 hk65 hf6
    rw [splice_whole (by rfl)] at hf6
    have hp6 := hk65.blk hp4 (by simp; omega)
    have hk6 : Keep [] w61 w65 := ((hk62.tr hk63).trB hk64 (by omega)).trB hk65 (by omega)
    clear hp2 hf3 hp3 hp4 hf4 hk62 hk63 hk64 hk65
    have hk6w : Keep [] w w65 := (hk5w.tr hk60).tr hk6
    have hk165 : Keep [] w15 w65 := ((hk2.tr hk25).tr hk60).tr hk6
    have hp16 := hk165.blk hp1 (by simp)
    (repeat (first | refine pl_pure hT rfl rfl rfl ?_ | refine pl_nil ?_ | refine rn_seq ?_ | refine rn_plain ?_ | refine rn_block ?_ | refine rn_inBlock ?_ | refine rn_skip ?_ | refine rn_true rfl ?_ | refine rn_false rfl ?_ | refine rn_exit rfl ?_ | refine pl_not rfl rfl ?_))
    refine pl_val _ rfl rfl (val_load1 hT rfl rfl rfl (hp16.cell rfl)) ?_
    refine pl_val _ rfl rfl (val_build _ rfl rfl (built_p1 _ _ _) w65) ?_
    refine pl_op rfl rfl (opTo_allocN _ rfl zero_pr ?_)
    intro w7 p14 hp140 hs7 hk7 hp7
    refine pl_op rfl rfl (opTo_storeN [.slice av1 vs.length cv1, .slice none 0 0] rfl rfl rfl rfl size_pr hp7 (by simp [pz]) (one_pr _ _ _ _ _ _) ?_)
    intro w8 hs8 hk8 hp14
    rw [splice_whole (by rfl)] at hp14
    have hk68 : Keep [] w65 w8 := hk7.trB hk8 (by omega)
    have hk18 : Keep [] w15 w8 := hk165.tr hk68
    have hp18 := hk18.blk hp1 (by simp)
    have hpne : p1 ≠ p14 := by have := hp16.lt; omega
    (repeat (first | refine pl_pure hT rfl rfl rfl ?_ | refine pl_not rfl rfl ?_ | refine pl_nil ?_ | refine rn_inBlock ?_ | refine rn_skip ?_ | refine rn_true rfl ?_ | refine rn_false rfl ?_ | refine rn_exit rfl ?_))
    refine rn_seq ?_
    refine rn_with (fun σ' w' => ∃ wa wn wc F', StmtsV F' w' (.slice wa wn wc) (body ++ bn) ∧ In F' w' ∧ Blk w' p14 [.slice av1 vs.length cv1, .slice wa wn wc] 26 ∧ Keep [p14] w8 w' ∧ Sub [(12, .pointer (some ⟨p6, 0, none⟩)), (13, .pointer (some ⟨f6, 0, none⟩)), (14, .pointer (some ⟨p14, 0, none⟩))] σ') ?_ ?_
    rotate_left
    · intro fin1
      have hkd : Keep [] w8 w8.drew := (Keep.refl _ _).drew
      refine rn_draw (fun w' => Blk w' p14 [.slice av1 vs.length cv1, .slice none 0 0] 26 ∧ Blk w' p1 [.slice av1 vs.length cv1, .slice ab1 body.length cb1] 26) [11] hMix ?_
      have hS : Blk w8.drew p14 [.slice av1 vs.length cv1, .slice none 0 0] 26 ∧ Blk w8.drew p1 [.slice av1 vs.length cv1, .slice ab1 body.length cb1] 26 := ⟨hkd.blk hp14 (by simp), hkd.blk hp18 (by simp)⟩
      generalize w8.drew = wd at *
      have hk1d : Keep [] w15 wd := hk18.tr hkd
      have hbd := hbr.keep hk1d hin.stays
      have hind := hin.keep hk1d
      have hpd := hS.1.lt
      have hF14 : ∀ c, F1 c → c < wd.heap.size ∧ c ≠ p14 := fun c hc => ⟨hind c hc, by
        have := hin1 c hc
        have := (hk1.tr hk165).size
        omega⟩
      refine dr_pure 0 hT rfl (by decide +kernel) rfl rfl rfl ?_
      refine dr_val 1 (.slice none 0 0) rfl (by decide +kernel) rfl rfl (fun w9 hS9 => val_load1 hT rfl rfl rfl (hS9.1.cell rfl)) hS ?_
      refine dr_pure 2 hT rfl (by decide +kernel) rfl rfl rfl ?_
      refine dr_val 3 (.slice ab1 body.length cb1) rfl (by decide +kernel) rfl rfl (fun w9 hS9 => val_load1 hT rfl rfl rfl (hS9.2.cell rfl)) hS ?_
      refine dr_pure 5 hT rfl (by decide +kernel) rfl rfl rfl ?_
      refine dr_val 6 (.slice ab1 body.length cb1) rfl (by decide +kernel) rfl rfl (fun w9 hS9 => val_load1 hT rfl rfl rfl (hS9.2.cell rfl)) hS ?_
      refine dr_pure 7 hT rfl (by decide +kernel) rfl rfl rfl ?_
      refine dr_any 8 (.slice ab1 n cb1) rfl (by decide +kernel) rfl rfl (fun w => val_sliceTo n hT rfl rfl rfl rfl rfl (by omega) w) ?_
      rcases Nat.eq_zero_or_pos body.length with h0 | h0
      · have hb0 : body = [] := List.eq_nil_of_length_eq_zero h0
        subst hb0
        have hn0 : n = 0 := by simp at hnl; exact hnl
        subst hn0
        refine dr_op 4 rfl (by decide +kernel) rfl rfl (opTo_appNo 43 12 160 rfl rfl (Nat.le_refl _) rfl (by decide +kernel) ?_)
        refine ⟨fun _ => hS, ?_⟩
        refine dr_op 9 rfl (by decide +kernel) rfl rfl (opTo_appNo 43 12 160 rfl rfl (Nat.le_refl _) rfl (by decide +kernel) ?_)
        refine ⟨fun _ => hS, ?_⟩
        refine dr_pure 10 hT rfl (by decide +kernel) rfl rfl rfl ?_
        refine dr_op 11 rfl (by decide +kernel) rfl rfl (opTo_storeN [.slice none 0 0] rfl rfl rfl rfl size_sl hS.1 (by simp) (by intro u hu'; simp at hu'; subst hu'; rfl) ?_)
        intro we hse hke hpe
        refine ⟨fun h => absurd (by simp) h, ?_⟩
        refine dr_done (by decide +kernel) ?_
        have hbn0 : bn = [] := by rw [hbn]; rfl
        exact fin1 _ _ ⟨none, 0, 0, fun _ => False, by rw [hbn0]; exact StmtsV.nil, fun _ h => h.elim, hpe, hkd.of0.tr hke, rfl, rfl, rfl, trivial⟩
      obtain ⟨ccs, _, hcl, hcel, hcr⟩ := hbd.row
      obtain ⟨b1, q1, hab, _, hcra⟩ := hcr h0
      subst hab
      obtain ⟨hfl1, hone1⟩ := row_len hcl hcel
      refine dr_op 4 rfl (by decide +kernel) rfl rfl (opTo_app wd.heap.size 43 12 160 [] ccs.flatten rfl rfl rfl (by decide +kernel) (Own.nil _ _ _ _) hcra hfl1 hone1 h0 (by simp only [maxLen]; omega) (by omega) (Nat.le_refl _) ?_)
      intro g4 cap4 w4' hown4 hor4
      have hkd4 : Keep [] wd w4' := by
        rcases hor4 with ⟨h1, _⟩ | ⟨_, h2, _⟩
        · simp [Value.ownBlock] at h1
        · exact h2
      have hS4 : Blk w4' p14 [.slice av1 vs.length cv1, .slice none 0 0] 26 ∧ Blk w4' p1 [.slice av1 vs.length cv1, .slice (some ⟨b1, q1, none⟩) body.length cb1] 26 := ⟨hkd4.blk hS.1 (by simp), hkd4.blk hS.2 (by simp)⟩
      refine ⟨fun _ => hS4, ?_⟩
      have hcel4 : ∀ i (hi : i < body.length), StmtV F1 w4' (ccs.getD i []) (body[i]'hi) := fun i hi => (hcel i hi).keep hkd4 hind.stays
      rw [List.nil_append] at hown4
      rcases Nat.eq_zero_or_pos n with hn0 | hn0
      · subst hn0
        refine dr_op 9 rfl (by decide +kernel) rfl rfl (opTo_appNo 43 12 160 rfl rfl (own_cap hown4) rfl (by decide +kernel) ?_)
        refine ⟨fun _ => hS4, ?_⟩
        have hbn0 : bn = [] := by rw [hbn]; rfl
        have hst := stmts_of_own (F := F1) (ccs := ccs) (l := body) (by rw [hcl]; rw [Nat.zero_add] at hown4; exact hown4) hcl hcel4
        have hFin : ∀ c, (Value.slice (some ⟨g4, 0, none⟩) (0 + body.length) cap4).ownBlock = some c ∨ F1 c → c < w4'.heap.size ∧ c ≠ p14 := by
          rintro c (h | h)
          · have := hown4.lt c h
            omega
          · have := hF14 c h
            have := hkd4.size
            omega
        refine dr_pure 10 hT rfl (by decide +kernel) rfl rfl rfl ?_
        refine dr_op 11 rfl (by decide +kernel) rfl rfl (opTo_storeN [.slice (some ⟨g4, 0, none⟩) (0 + body.length) cap4] rfl rfl rfl rfl size_sl hS4.1 (by simp) (by intro u hu'; simp at hu'; subst hu'; rfl) ?_)
        intro we hse hke hpe
        refine ⟨fun h => absurd (by simp) h, ?_⟩
        refine dr_done (by decide +kernel) ?_
        exact fin1 _ _ ⟨some ⟨g4, 0, none⟩, 0 + body.length, cap4, _, by rw [hbn0, List.append_nil, Nat.zero_add]; exact (hst.keep hke (fun c hc => ⟨(hFin c hc).1, by simp; exact (hFin c hc).2⟩)), fun c hc => Nat.lt_of_lt_of_le (hFin c hc).1 hke.size, hpe, ((hkd.tr hkd4).of0).tr hke, rfl, rfl, rfl, trivial⟩
      · have hbnd := (hbnr.keep hk1d hin.stays).keep hkd4 hind.stays
        obtain ⟨ccs2, _, hcl2, hcel2, hcr2⟩ := hbnd.row
        obtain ⟨b2, q2, hab2, _, hcra2⟩ := hcr2 (by omega)
        obtain ⟨hfl2, hone2⟩ := row_len hcl2 hcel2
        rw [hbnl] at hfl2
        injection hab2 with hab2
        injection hab2 with hab2 hab3
        subst hab2 hab3
        refine dr_op 9 rfl (by decide +kernel) rfl rfl (opTo_app wd.heap.size 43 12 160 ccs.flatten ccs2.flatten rfl rfl rfl (by decide +kernel) hown4 hcra2 hfl2 hone2 hn0 (by simp only [maxLen]; omega) (by omega) hkd4.size ?_)
        intro g9 cap9 w9' hown9 hor9
        have hk49 : Keep [] wd w9' := by
          rcases hor9 with ⟨h1, _, h2⟩ | ⟨_, h2, _⟩
          · exact hkd4.trB h2 (hown4.lt g9 h1).1
          · exact hkd4.tr h2
        have hS9 : Blk w9' p14 [.slice av1 vs.length cv1, .slice none 0 0] 26 ∧ Blk w9' p1 [.slice av1 vs.length cv1, .slice (some ⟨b1, q1, none⟩) body.length cb1] 26 := ⟨hk49.blk hS.1 (by simp), hk49.blk hS.2 (by simp)⟩
        refine ⟨fun _ => hS9, ?_⟩
        have hst49 : Stays F1 w4' [g9] ∨ Keep [] w4' w9' := by
          rcases hor9 with ⟨h1, _, h2⟩ | ⟨_, h2, _⟩
          · left
            intro c hc
            have h3 := (hown4.lt g9 h1).1
            have h4 := hF14 c hc
            exact ⟨by have := hkd4.size; omega, by simp; omega⟩
          · exact .inr h2
        have hkeep9 : ∀ {cs : List Value} {t : ST}, StmtV F1 w4' cs t → StmtV F1 w9' cs t := by
          intro cs t h
          rcases hor9 with ⟨h1, _, h2⟩ | ⟨_, h2, _⟩
          · refine h.keep h2 (fun c hc => ?_)
            have h3 := (hown4.lt g9 h1).1
            have h4 := hF14 c hc
            exact ⟨by have := hkd4.size; omega, by simp; omega⟩
          · exact h.keep h2 (hind.keep hkd4).stays
        have hst := stmts_of_own (F := F1) (ccs := ccs ++ ccs2) (l := body ++ bn) (by
          have e3 : (ccs ++ ccs2).length = 0 + body.length + n := by rw [List.length_append, hcl, hcl2, hbnl]; omega
          rw [e3, List.flatten_append]
          exact hown9) (by rw [List.length_append, List.length_append, hcl, hcl2]) (fun i hi => by
            rw [List.getD_eq_getElem?_getD]
            by_cases hib : i < body.length
            · rw [List.getElem?_append_left (by omega), List.getElem_append_left hib]
              have := hkeep9 (hcel4 i hib)
              rwa [List.getD_eq_getElem?_getD] at this
            · rw [List.getElem?_append_right (by omega), List.getElem_append_right (by omega)]
              have h5 : i - ccs.length = i - body.length := by omega
              rw [List.length_append] at hi
              have := hkeep9 (hcel2 (i - body.length) (by omega))
              rw [List.getD_eq_getElem?_getD] at this
              rw [h5]
              exact this)
        have hFin : ∀ c, (Value.slice (some ⟨g9, 0, none⟩) (0 + body.length + n) cap9).ownBlock = some c ∨ F1 c → c < w9'.heap.size ∧ c ≠ p14 := by
          rintro c (h | h)
          · have := hown9.lt c h
            omega
          · have := hF14 c h
            have := hk49.size
            omega
        refine dr_pure 10 hT rfl (by decide +kernel) rfl rfl rfl ?_
        refine dr_op 11 rfl (by decide +kernel) rfl rfl (opTo_storeN [.slice (some ⟨g9, 0, none⟩) (0 + body.length + n) cap9] rfl rfl rfl rfl size_sl hS9.1 (by simp) (by intro u hu'; simp at hu'; subst hu'; rfl) ?_)
        intro we hse hke hpe
        refine ⟨fun h => absurd (by simp) h, ?_⟩
        refine dr_done (by decide +kernel) ?_
        exact fin1 _ _ ⟨some ⟨g9, 0, none⟩, 0 + body.length + n, cap9, _, (hst.keep hke (fun c hc => ⟨(hFin c hc).1, by simp; exact (hFin c hc).2⟩)), fun c hc => Nat.lt_of_lt_of_le (hFin c hc).1 hke.size, hpe, ((hkd.tr hk49).of0).tr hke, rfl, rfl, rfl, trivial⟩
    rintro σ' w9 ⟨wa, wn, wc, F', hrow, hinF', hp9, hk9, hsub⟩
    refine rn_sub hsub ?_
    have hwn : wn = (body ++ bn).length := by obtain ⟨_, _, _, hv, _⟩ := hrow; injection hv
    have hszw : szSs (body ++ bn) ≤ 100000 := by rw [szSs_append]; omega
    have hst14 : Stays F1 w8 [p14] := fun c hc => ⟨(hin1.keep (hk1.tr hk18)) c hc, by
      simp
      intro e
      have := hin1 c hc
      have := (hk1.tr hk165).size
      omega⟩
    have hPw : ProgV (fun c => F1 c ∨ F' c) w9 (.agg #[.slice av1 vs.length cv1, .slice wa wn wc]) vs (body ++ bn) := ⟨_, _, rfl, (((hvr.keep hk18 hin.stays).keep hk9 hst14).mono (fun _ h => .inl h)), hrow.mono (fun _ h => .inr h)⟩
    have hIw : In (fun c => F1 c ∨ F' c) w9 := fun c hc => hc.elim (fun h => Nat.lt_of_lt_of_le ((hin1.keep (hk1.tr hk18)) c h) hk9.size) (fun h => hinF' c h)
    have hp6' : p6 ≠ p14 := by have := hp6.lt; omega
    have hf6' : f6 ≠ p14 := by have := hf6.lt; omega
    have hp69 := hk9.blk (hk68.blk hp6 (by simp)) (by simp; exact hp6')
    have hf69 := hk9.blk (hk68.blk hf6 (by simp)) (by simp; exact hf6')
    have hst6 : Stays F6 w8 [p14] := fun c hc => ⟨(hin6.keep (hk6.tr hk68)) c hc, by
      simp
      intro e
      have := hin6 c hc
      have := hk6.size
      omega⟩
    have hP69 := (hprog6.keep (hk6.tr hk68) hin6.stays).keep hk9 hst6
    have hI69 : In F6 w9 := fun c hc => Nat.lt_of_lt_of_le ((hin6.keep (hk6.tr hk68)) c hc) hk9.size
    have hk9w : Keep [] w w9 := (hk6w.tr hk68).trB hk9 (by have := hk6w.size; omega)
    (repeat (first | refine pl_pure hT rfl rfl rfl ?_ | refine pl_nil ?_ | refine rn_seq ?_ | refine rn_plain ?_ | refine rn_block ?_ | refine rn_inBlock ?_ | refine rn_skip ?_ | refine rn_true rfl ?_ | refine rn_false rfl ?_ | refine rn_exit rfl ?_ | refine pl_not rfl rfl ?_))
    refine pl_val _ rfl rfl (val_load [.slice av1 vs.length cv1, .slice wa wn wc] hT rfl rfl rfl (hp9.range (by rfl))) ?_
    refine pl_op rfl rfl (opTo_call (fst := []) (cap := []) rfl rfl rfl rfl (by decide +kernel) ((refFault_ret hPw hIw hnm hszw).mono ?_))
    rintro r w10 ⟨rfl, hk10'⟩
    obtain ⟨c, hc⟩ : ∃ c, c = progFault vs (body ++ bn) := ⟨_, rfl⟩
    rw [← hc]
    rw [← hc] at hjoin
    have hf610 := hk10'.blk hf69 (by simp)
    have hp610 := hk10'.blk hp69 (by simp)
    have hp910 := hk10'.blk hp9 (by simp)
    (repeat (first | refine pl_pure hT rfl rfl rfl ?_ | refine pl_nil ?_ | refine rn_seq ?_ | refine rn_plain ?_ | refine rn_block ?_ | refine rn_inBlock ?_ | refine rn_skip ?_ | refine rn_true rfl ?_ | refine rn_false rfl ?_ | refine rn_exit rfl ?_ | refine pl_not rfl rfl ?_))
    by_cases hc0 : c = 0
    · rw [if_neg (by omega)] at hjoin
      rw [hjoin] at hP6 hfl6
      injection hP6 with h1 h2
      subst h1 h2
      injection hfl6 with h1 h2
      subst h1 h2
      refine pl_no rfl rfl rfl rfl rfl rfl (by first | (simp only [cmpP]; omega) | (simp [cmpP]; done) | (simp [cmpP]; omega)) ?_
      (repeat (first | refine pl_pure hT rfl rfl rfl ?_ | refine pl_nil ?_ | refine rn_seq ?_ | refine rn_plain ?_ | refine rn_block ?_ | refine rn_inBlock ?_ | refine rn_skip ?_ | refine rn_true rfl ?_ | refine rn_false rfl ?_ | refine rn_exit rfl ?_ | refine pl_not rfl rfl ?_))
      refine pl_val _ rfl rfl (val_load1 hT rfl rfl rfl (hf610.cell rfl)) ?_
      refine pl_yes rfl rfl rfl rfl rfl (by first | (simp only [cmpP]; omega) | (simp [cmpP]; done) | (simp [cmpP]; omega)) ?_
      (repeat (first | refine pl_pure hT rfl rfl rfl ?_ | refine pl_nil ?_ | refine rn_seq ?_ | refine rn_plain ?_ | refine rn_block ?_ | refine rn_inBlock ?_ | refine rn_skip ?_ | refine rn_true rfl ?_ | refine rn_false rfl ?_ | refine rn_exit rfl ?_ | refine pl_not rfl rfl ?_))
      refine pl_val _ rfl rfl (val_load [.slice av6 vs6.length cv6, .slice ab6 (body ++ bn).length cb6] hT rfl rfl rfl (hp610.range (by rfl))) ?_
      refine pl_val _ rfl rfl (val_load [.slice av1 vs6.length cv1, .slice wa wn wc] hT rfl rfl rfl (hp910.range (by rfl))) ?_
      refine pl_op rfl rfl (opTo_call (fst := []) (cap := []) rfl rfl rfl rfl (by decide +kernel) ((refSame_ret (hP69.keep hk10' hI69.stays) (hPw.keep hk10' hIw.stays) (hI69.keep hk10') (hIw.keep hk10') (by show vs6.length ≤ _; omega) hszw).mono ?_))
      rintro r w11' ⟨rfl, hk11⟩
      rw [eqP_refl]
      (repeat (first | refine pl_pure hT rfl rfl rfl ?_ | refine pl_nil ?_ | refine rn_seq ?_ | refine rn_plain ?_ | refine rn_block ?_ | refine rn_inBlock ?_ | refine rn_skip ?_ | refine rn_true rfl ?_ | refine rn_false rfl ?_ | refine rn_exit rfl ?_ | refine pl_not rfl rfl ?_))
      exact rn_ret Tryz.func4 (.inl ⟨_, rfl, rfl⟩) ⟨rfl, (hk9w.tr hk10').tr hk11⟩
    · rw [if_pos hc0] at hjoin
      rw [hjoin] at hfl6
      injection hfl6 with h1 h2
      subst h1 h2
      refine pl_yes rfl rfl rfl rfl rfl (by first | (simp only [cmpP]; omega) | (simp [cmpP]; done) | (simp [cmpP]; omega)) ?_
      (repeat (first | refine pl_pure hT rfl rfl rfl ?_ | refine pl_nil ?_ | refine rn_seq ?_ | refine rn_plain ?_ | refine rn_block ?_ | refine rn_inBlock ?_ | refine rn_skip ?_ | refine rn_true rfl ?_ | refine rn_false rfl ?_ | refine rn_exit rfl ?_ | refine pl_not rfl rfl ?_))
      refine rn_draw (fun w' => Keep [] w10 w') [] hMix ?_
      have hS : Keep [] w10 w10.drew := (Keep.refl _ _).drew
      generalize w10.drew = w11' at *
      refine dr_val 0 _ rfl (by decide +kernel) rfl rfl (fun w9 hS9 => val_load [.int .i64 fa, .int .i64 (-1)] hT rfl rfl rfl ((hS9.blk hf610 (by simp)).range (by rfl))) hS ?_
      refine dr_pure 1 hT rfl (by decide +kernel) rfl rfl rfl ?_
      refine dr_op 2 rfl (by decide +kernel) rfl rfl (opTo_call (fst := []) (cap := []) rfl rfl rfl rfl (by decide +kernel) ((faultR_ret fa (-1) _).mono ?_))
      rintro r w12' ⟨rfl, hk12⟩
      refine ⟨fun _ => hS.tr hk12, ?_⟩
      refine dr_any 3 _ rfl (by decide +kernel) rfl rfl (fun w => val_eqTwo fa fa (-1) (-1) true (by decide +kernel) rfl rfl rfl (by simp) w) ?_
      refine dr_pure 4 hT rfl (by decide +kernel) rfl rfl rfl ?_
      refine dr_done (by decide +kernel) ?_
      (repeat (first | refine pl_pure hT rfl rfl rfl ?_ | refine pl_nil ?_ | refine rn_seq ?_ | refine rn_plain ?_ | refine rn_block ?_ | refine rn_inBlock ?_ | refine rn_skip ?_ | refine rn_true rfl ?_ | refine rn_false rfl ?_ | refine rn_exit rfl ?_ | refine pl_not rfl rfl ?_))
      exact rn_ret Tryz.func4 (.inl ⟨_, rfl, rfl⟩) ⟨rfl, ((hk9w.tr hk10').tr hS).tr hk12⟩
end E
end Go.Proofs.YthbkcadiejfgaacGreatDoor

/- Rows of expressions and of statements that are being made; what both readers take of the program's types, and of the mathematics of reading. -/
namespace Go.Proofs.YthbkcadiejfgaacGreatDoor
set_option maxRecDepth 20000
set_option maxHeartbeats 4000000
namespace E
open Go.Proofs

section
variable {P : Program} {n : Nat} {σ : Env} {o : Oper}
theorem val_eqS {t t' : Nat} {x y : Operand} (a b : List UInt8) (r : Bool) (ho : o.op = .binOp .eql t x y t') (hx : ev σ x = some (.string (str a))) (hy : ev σ y = some (.string (str b))) (hr : (a == b) = r) (w : World) : Val P n σ o w (.bool r) :=
  val_eqStr (str a) (str b) r ho hx hy (by rw [str_toList, str_toList]; exact hr) w
end


theorem nameOk_str (l : List UInt8) : nameOk (str l) = nameB l := by
  unfold nameOk nameB
  rw [str_list, str_size]
  rfl

theorem findV_cons (x : VarT) (r : List VarT) (s : List UInt8) : findV (x :: r) s = if x.1.data.toList == s then some 0 else (findV r s).map (· + 1) := rfl

/-- What is owned is known. -/
theorem Own.eq {w : World} {B e size n : Nat} {v : Value} {xs ys : List Value} (h : Own w B e size v n xs) (h' : Own w B e size v n ys) : xs = ys := by
  rcases h.2 with ⟨_, h1⟩ | ⟨g1, c1, cur1, h1, _, hb1, _, _, ht1⟩
  · have l1 := h.1
    have l2 := h'.1
    rw [h1, Nat.zero_mul] at l1 l2
    have e1 : xs = [] := List.eq_nil_of_length_eq_zero l1
    have e2 : ys = [] := List.eq_nil_of_length_eq_zero l2
    rw [e1, e2]
  · rcases h'.2 with ⟨h2, _⟩ | ⟨g2, c2, cur2, h2, _, hb2, _, _, ht2⟩
    · rw [h2] at h1; cases h1
    · rw [h1] at h2
      injection h2 with h2 _ _
      injection h2 with h2
      injection h2 with h2 _ _
      subst h2
      unfold Blk at hb1 hb2
      rw [hb1] at hb2
      injection hb2 with hb2
      injection hb2 with hb2
      have hcc : cur1 = cur2 := by
        have := congrArg Array.toList hb2
        simpa using this
      rw [← ht1, ← ht2, hcc]
/-- A row of ET that is being made: in blocks from B on. -/
def RowE (w : World) (B : Nat) (v : Value) (l : List ET) : Prop :=
  ∃ (ccs : List (List Value)) (F : Nat → Prop), Own w B 41 4 v ccs.length ccs.flatten ∧ ccs.length = l.length ∧ (∀ i (hi : i < l.length), ExprV F w (ccs.getD i []) (l[i]'hi)) ∧ ∀ c, F c → B ≤ c ∧ c < w.heap.size ∧ v.ownBlock ≠ some c
theorem RowE.nil (w : World) (B : Nat) : RowE w B (.slice none 0 0) [] := ⟨[], fun _ => False, Own.nil _ _ _ _, rfl, fun i hi => by simp at hi, fun c h => h.elim⟩
theorem RowE.own {w : World} {B : Nat} {v : Value} {l : List ET} (h : RowE w B v l) : ∃ xs, Own w B 41 4 v l.length xs := by
  obtain ⟨ccs, F, ho, hl, _⟩ := h
  exact ⟨_, hl ▸ ho⟩
theorem RowE.keep {w w' : World} {B : Nat} {v : Value} {l : List ET} {fp : List Nat} (h : RowE w B v l) (hk : Keep fp w w') (hfp : ∀ c ∈ fp, c < B) : RowE w' B v l := by
  obtain ⟨ccs, F, ho, hl, hc, hF⟩ := h
  refine ⟨ccs, F, ho.keep hk (fun c hc' hm => by have := (ho.lt c hc').1; have := hfp c hm; omega), hl, fun i hi => (hc i hi).keep hk fun c hFc => ⟨(hF c hFc).2.1, fun hm => by have := hfp c hm; have := (hF c hFc).1; omega⟩, fun c hFc => ?_⟩
  have := hF c hFc
  exact ⟨this.1, Nat.lt_of_lt_of_le this.2.1 hk.size, this.2.2⟩
/-- One more, behind an append. -/
theorem RowE.app {w w' : World} {B : Nat} {v : Value} {l : List ET} {cs : List Value} {t : ET} {F' : Nat → Prop} {g cap : Nat} (h : RowE w B v l) (ht : ExprV F' w cs t) (hF' : ∀ c, F' c → B ≤ c ∧ c < w.heap.size ∧ v.ownBlock ≠ some c)
    (hn : ∀ xs, Own w B 41 4 v l.length xs → Own w' B 41 4 (.slice (some ⟨g, 0, none⟩) (l.length + 1) cap) (l.length + 1) (xs ++ cs))
    (hor : (v.ownBlock = some g ∧ l.length + 1 ≤ capOf v ∧ Keep [g] w w') ∨ (g = w.heap.size ∧ Keep [] w w' ∧ w'.heap.size = w.heap.size + 1)) : RowE w' B (.slice (some ⟨g, 0, none⟩) (l.length + 1) cap) (l ++ [t]) := by
  obtain ⟨ccs, F, ho, hl, hc, hF⟩ := h
  have hcs := ht.length
  have hG : ∀ c, F c ∨ F' c → B ≤ c ∧ c < w.heap.size ∧ c ≠ g := by
    intro c hc'
    have h1 : B ≤ c ∧ c < w.heap.size ∧ v.ownBlock ≠ some c := hc'.elim (hF c) (hF' c)
    refine ⟨h1.1, h1.2.1, fun e => ?_⟩
    rcases hor with ⟨h2, _⟩ | ⟨h2, _⟩
    · rw [e] at h1; exact h1.2.2 h2
    · omega
  have hst : ∀ fp, (fp = [g] ∨ fp = []) → Stays (fun c => F c ∨ F' c) w fp := by
    intro fp hfp c hc'
    refine ⟨(hG c hc').2.1, ?_⟩
    rcases hfp with rfl | rfl
    · simp; exact (hG c hc').2.2
    · simp
  have hkk : ∃ fp, (fp = [g] ∨ fp = []) ∧ Keep fp w w' := by
    rcases hor with ⟨_, _, h2⟩ | ⟨_, h2, _⟩
    · exact ⟨_, .inl rfl, h2⟩
    · exact ⟨_, .inr rfl, h2⟩
  obtain ⟨fp, hfp, hk⟩ := hkk
  refine ⟨ccs ++ [cs], fun c => F c ∨ F' c, ?_, by simp [hl], ?_, ?_⟩
  · have := hn _ (hl ▸ ho)
    have e1 : (ccs ++ [cs]).length = l.length + 1 := by simp [hl]
    have e2 : (ccs ++ [cs]).flatten = ccs.flatten ++ cs := by simp
    rw [e1, e2]
    exact this
  · intro i hi
    simp only [List.length_append, List.length_cons, List.length_nil] at hi
    by_cases hlt : i < l.length
    · have e1 : (ccs ++ [cs]).getD i [] = ccs.getD i [] := by
        rw [List.getD_eq_getElem?_getD, List.getD_eq_getElem?_getD, List.getElem?_append_left (by omega)]
      have e2 : (l ++ [t])[i]'(by simp; omega) = l[i] := List.getElem_append_left hlt
      rw [e1, e2]
      exact ((hc i hlt).mono fun c h => .inl h).keep hk (hst fp hfp)
    · obtain rfl : i = l.length := by omega
      have e1 : (ccs ++ [cs]).getD l.length [] = cs := by
        rw [List.getD_eq_getElem?_getD, ← hl, List.getElem?_append_right (Nat.le_refl _)]
        simp
      have e2 : (l ++ [t])[l.length]'(by simp) = t := by simp
      rw [e1, e2]
      exact (ht.mono fun c h => .inr h).keep hk (hst fp hfp)
  · intro c hc'
    have := hG c hc'
    refine ⟨this.1, Nat.lt_of_lt_of_le this.2.1 hk.size, ?_⟩
    show some g ≠ some c
    intro e
    injection e with e
    exact this.2.2 e.symm
theorem RowE.exprs {w : World} {B : Nat} {v : Value} {l : List ET} (h : RowE w B v l) : ∃ F : Nat → Prop, ExprsV F w v l ∧ ∀ c, F c → B ≤ c ∧ c < w.heap.size := by
  obtain ⟨ccs, F, ho, hl, hc, hF⟩ := h
  refine ⟨_, exprs_of_own ho hl hc, ?_⟩
  rintro c (h | h)
  · exact ho.lt c h
  · exact ⟨(hF c h).1, (hF c h).2.1⟩
/-- A row of ST that is being made: in blocks from B on. -/
def RowS (w : World) (B : Nat) (v : Value) (l : List ST) : Prop :=
  ∃ (ccs : List (List Value)) (F : Nat → Prop), Own w B 43 12 v ccs.length ccs.flatten ∧ ccs.length = l.length ∧ (∀ i (hi : i < l.length), StmtV F w (ccs.getD i []) (l[i]'hi)) ∧ ∀ c, F c → B ≤ c ∧ c < w.heap.size ∧ v.ownBlock ≠ some c
theorem RowS.nil (w : World) (B : Nat) : RowS w B (.slice none 0 0) [] := ⟨[], fun _ => False, Own.nil _ _ _ _, rfl, fun i hi => by simp at hi, fun c h => h.elim⟩
theorem RowS.own {w : World} {B : Nat} {v : Value} {l : List ST} (h : RowS w B v l) : ∃ xs, Own w B 43 12 v l.length xs := by
  obtain ⟨ccs, F, ho, hl, _⟩ := h
  exact ⟨_, hl ▸ ho⟩
theorem RowS.keep {w w' : World} {B : Nat} {v : Value} {l : List ST} {fp : List Nat} (h : RowS w B v l) (hk : Keep fp w w') (hfp : ∀ c ∈ fp, c < B) : RowS w' B v l := by
  obtain ⟨ccs, F, ho, hl, hc, hF⟩ := h
  refine ⟨ccs, F, ho.keep hk (fun c hc' hm => by have := (ho.lt c hc').1; have := hfp c hm; omega), hl, fun i hi => (hc i hi).keep hk fun c hFc => ⟨(hF c hFc).2.1, fun hm => by have := hfp c hm; have := (hF c hFc).1; omega⟩, fun c hFc => ?_⟩
  have := hF c hFc
  exact ⟨this.1, Nat.lt_of_lt_of_le this.2.1 hk.size, this.2.2⟩
/-- One more, behind an append. -/
theorem RowS.app {w w' : World} {B : Nat} {v : Value} {l : List ST} {cs : List Value} {t : ST} {F' : Nat → Prop} {g cap : Nat} (h : RowS w B v l) (ht : StmtV F' w cs t) (hF' : ∀ c, F' c → B ≤ c ∧ c < w.heap.size ∧ v.ownBlock ≠ some c)
    (hn : ∀ xs, Own w B 43 12 v l.length xs → Own w' B 43 12 (.slice (some ⟨g, 0, none⟩) (l.length + 1) cap) (l.length + 1) (xs ++ cs))
    (hor : (v.ownBlock = some g ∧ l.length + 1 ≤ capOf v ∧ Keep [g] w w') ∨ (g = w.heap.size ∧ Keep [] w w' ∧ w'.heap.size = w.heap.size + 1)) : RowS w' B (.slice (some ⟨g, 0, none⟩) (l.length + 1) cap) (l ++ [t]) := by
  obtain ⟨ccs, F, ho, hl, hc, hF⟩ := h
  have hcs := ht.length
  have hG : ∀ c, F c ∨ F' c → B ≤ c ∧ c < w.heap.size ∧ c ≠ g := by
    intro c hc'
    have h1 : B ≤ c ∧ c < w.heap.size ∧ v.ownBlock ≠ some c := hc'.elim (hF c) (hF' c)
    refine ⟨h1.1, h1.2.1, fun e => ?_⟩
    rcases hor with ⟨h2, _⟩ | ⟨h2, _⟩
    · rw [e] at h1; exact h1.2.2 h2
    · omega
  have hst : ∀ fp, (fp = [g] ∨ fp = []) → Stays (fun c => F c ∨ F' c) w fp := by
    intro fp hfp c hc'
    refine ⟨(hG c hc').2.1, ?_⟩
    rcases hfp with rfl | rfl
    · simp; exact (hG c hc').2.2
    · simp
  have hkk : ∃ fp, (fp = [g] ∨ fp = []) ∧ Keep fp w w' := by
    rcases hor with ⟨_, _, h2⟩ | ⟨_, h2, _⟩
    · exact ⟨_, .inl rfl, h2⟩
    · exact ⟨_, .inr rfl, h2⟩
  obtain ⟨fp, hfp, hk⟩ := hkk
  refine ⟨ccs ++ [cs], fun c => F c ∨ F' c, ?_, by simp [hl], ?_, ?_⟩
  · have := hn _ (hl ▸ ho)
    have e1 : (ccs ++ [cs]).length = l.length + 1 := by simp [hl]
    have e2 : (ccs ++ [cs]).flatten = ccs.flatten ++ cs := by simp
    rw [e1, e2]
    exact this
  · intro i hi
    simp only [List.length_append, List.length_cons, List.length_nil] at hi
    by_cases hlt : i < l.length
    · have e1 : (ccs ++ [cs]).getD i [] = ccs.getD i [] := by
        rw [List.getD_eq_getElem?_getD, List.getD_eq_getElem?_getD, List.getElem?_append_left (by omega)]
      have e2 : (l ++ [t])[i]'(by simp; omega) = l[i] := List.getElem_append_left hlt
      rw [e1, e2]
      exact ((hc i hlt).mono fun c h => .inl h).keep hk (hst fp hfp)
    · obtain rfl : i = l.length := by omega
      have e1 : (ccs ++ [cs]).getD l.length [] = cs := by
        rw [List.getD_eq_getElem?_getD, ← hl, List.getElem?_append_right (Nat.le_refl _)]
        simp
      have e2 : (l ++ [t])[l.length]'(by simp) = t := by simp
      rw [e1, e2]
      exact (ht.mono fun c h => .inr h).keep hk (hst fp hfp)
  · intro c hc'
    have := hG c hc'
    refine ⟨this.1, Nat.lt_of_lt_of_le this.2.1 hk.size, ?_⟩
    show some g ≠ some c
    intro e
    injection e with e
    exact this.2.2 e.symm
theorem RowS.stmts {w : World} {B : Nat} {v : Value} {l : List ST} (h : RowS w B v l) : ∃ F : Nat → Prop, StmtsV F w v l ∧ ∀ c, F c → B ≤ c ∧ c < w.heap.size := by
  obtain ⟨ccs, F, ho, hl, hc, hF⟩ := h
  refine ⟨_, stmts_of_own ho hl hc, ?_⟩
  rintro c (h | h)
  · exact ho.lt c h
  · exact ⟨(hF c h).1, (hF c h).2.1⟩

theorem zero_ex : ((Tryz.prog.info? 41).bind (·.zero)).map (·.cells) = some [Value.int .i64 0, .int .i64 0, .int .i64 0, .slice none 0 0].toArray := by kernel_rfl
theorem built_expr (op : Int) : Tryz.prog.built 41 [(0, .int .i64 op)] = some [Value.int .i64 op, .int .i64 0, .int .i64 0, .slice none 0 0].toArray := by kernel_rfl
theorem size_expr : sizeOk Tryz.prog 41 4 = true := by kernel_rfl
theorem size_long : sizeOk Tryz.prog 2 1 = true := by kernel_rfl
theorem size_exprs : sizeOk Tryz.prog 39 1 = true := by kernel_rfl
theorem slice_one (a b c d : Value) : sliceCells Tryz.prog 39 1 [(0, .agg #[a, b, c, d])] = some (41, #[a, b, c, d]) := by kernel_rfl
/-- The cells of an expression. -/
def xC (op v n : Int) (sl : Value) : List Value := [.int .i64 op, .int .i64 v, .int .i64 n, sl]
theorem xC_one {op v n : Int} {sl : Value} (h : sl.oneCell' = true) : ∀ u ∈ xC op v n sl, u.oneCell' = true := by
  intro u hu
  simp only [xC, List.mem_cons, List.not_mem_nil, or_false] at hu
  rcases hu with rfl | rfl | rfl | rfl
  · rfl
  · rfl
  · rfl
  · exact h

section
variable (ts : List Tok) (fin : Nat) (vs : List VarT) (one : Nat → Except Flt (ET × Nat))
def rest4 (k : Nat) (n : Int) (v : Nat) (l : List ET) (i4 : Nat) : Except Flt (ET × Nat) := bnd (mustP ts fin [41] i4) fun i5 => .ok (.mk (k : Nat) (v : Nat) n l, i5)
def rest3 (k : Nat) (n : Int) (v i3 : Nat) : Except Flt (ET × Nat) := bnd (manyP one (partsOf (k : Nat)).toNat i3) fun (l, i4) => rest4 ts fin k n v l i4
def rest2 (k : Nat) (n : Int) (i2 : Nat) : Except Flt (ET × Nat) := bnd (if k = 2 ∨ k = 3 then varP ts fin vs i2 else .ok (0, i2)) fun (v, i3) => rest3 ts fin one k n v i3
def rest1 (k i1 : Nat) : Except Flt (ET × Nat) := bnd (if k = 1 then numP ts fin i1 else .ok (0, i1)) fun (n, i2) => rest2 ts fin vs one k n i2
end
theorem exprP_eq (ts : List Tok) (fin : Nat) (vs : List VarT) {f deep : Nat} (h : deep + f = 13) (i : Nat) : exprP ts fin vs f i =
    bnd (bnd (if 12 < deep then .error (wrongAt ts fin 4 i) else .ok i) (beginP ts fin wordT 8)) fun (k, i1) => rest1 ts fin vs (exprP ts fin vs (f - 1)) k i1 := by
  cases f with
  | zero =>
    rw [if_pos (by omega)]
    rfl
  | succ f =>
    rw [if_neg (by omega)]
    rfl
def sndX {α : Type} (x : Except Flt (α × Nat)) : Except Flt Nat := bnd x fun p => .ok p.2


theorem partsOf_range (k : Nat) (h1 : 1 ≤ k) (h8 : k ≤ 8) : 0 ≤ partsOf (k : Nat) ∧ partsOf (k : Nat) ≤ 2 := by
  unfold partsOf
  repeat' split
  all_goals omega


theorem slice_stmt (a b c d e f g h i j k l : Value) : sliceCells Tryz.prog 24 1 [(0, .agg #[a, b, c, d, e, f, g, h, i, j, k, l])] = some (43, #[a, b, c, d, e, f, g, h, i, j, k, l]) := by kernel_rfl
theorem list12 {cs : List Value} (h : cs.length = 12) : ∃ a b c d e f g h i j k l, cs = [a, b, c, d, e, f, g, h, i, j, k, l] := by
  match cs, h with
  | [a, b, c, d, e, f, g, h, i, j, k, l], _ => exact ⟨a, b, c, d, e, f, g, h, i, j, k, l, rfl⟩


def zx : List Value := [.int .i64 0, .int .i64 0, .int .i64 0, .slice none 0 0]
def zst : List Value := scells 0 0 zx zx (.slice none 0 0) (.slice none 0 0)
theorem zero_st : ((Tryz.prog.info? 43).bind (·.zero)).map (·.cells) = some zst.toArray := by kernel_rfl
theorem built_st (op : Int) : Tryz.prog.built 43 [(0, .int .i64 op)] = some (scells op 0 zx zx (.slice none 0 0) (.slice none 0 0)).toArray := by kernel_rfl
theorem size_st : sizeOk Tryz.prog 43 12 = true := by kernel_rfl
theorem size_sts : sizeOk Tryz.prog 24 1 = true := by kernel_rfl

section
variable (ts : List Tok) (fin : Nat) (vs : List VarT) (ex : Nat → Except Flt (ET × Nat)) (one : Nat → Except Flt (ST × Nat))
def st6 (k v : Nat) (e g : ET) (b o : List ST) (i : Nat) : Except Flt (ST × Nat) := bnd (mustP ts fin [41] i) fun i7 => .ok (.mk (k : Nat) (v : Nat) e g b o, i7)
def st5 (k v : Nat) (e g : ET) (b : List ST) (i : Nat) : Except Flt (ST × Nat) := bnd (if needO (k : Nat) then listP ts fin one i else .ok ([], i)) fun (o, i6) => st6 ts fin k v e g b o i6
def st4 (k v : Nat) (e g : ET) (i : Nat) : Except Flt (ST × Nat) := bnd (if needB (k : Nat) then listP ts fin one i else .ok ([], i)) fun (b, i5) => st5 ts fin one k v e g b i5
def st3 (k v : Nat) (e : ET) (i : Nat) : Except Flt (ST × Nat) := bnd (if needF (k : Nat) then ex i else .ok (zeroT, i)) fun (g, i4) => st4 ts fin one k v e g i4
def st2 (k v : Nat) (i : Nat) : Except Flt (ST × Nat) := bnd (if needE (k : Nat) then ex i else .ok (zeroT, i)) fun (e, i3) => st3 ts fin ex one k v e i3
def st1 (k i : Nat) : Except Flt (ST × Nat) := bnd (if needV (k : Nat) then varP ts fin vs i else .ok (0, i)) fun (v, i2) => st2 ts fin ex one k v i2
end
theorem stmtP_eq (ts : List Tok) (fin : Nat) (vs : List VarT) {f deep : Nat} (h : deep + f = 13) (i : Nat) : stmtP ts fin vs f i =
    bnd (bnd (if 12 < deep then .error (wrongAt ts fin 4 i) else .ok i) (beginP ts fin verbT 7)) fun (k, i1) => st1 ts fin vs (exprP ts fin vs (f - 1)) (stmtP ts fin vs (f - 1)) k i1 := by
  cases f with
  | zero =>
    rw [if_pos (by omega)]
    rfl
  | succ f =>
    rw [if_neg (by omega)]
    rfl

/-- The parts of a statement that is being made: in blocks from B on. -/
def Gd (w : World) (B : Nat) (e g : ET) (lb lo : List ST) (ce cf : List Value) (bv ov : Value) : Prop :=
  ∃ F : Nat → Prop, (∀ c, F c → B ≤ c ∧ c < w.heap.size) ∧ ExprV F w ce e ∧ ExprV F w cf g ∧ StmtsV F w bv lb ∧ StmtsV F w ov lo
/-- That the cells are such as cells are. -/
structure Fm (ce cf : List Value) (bv ov : Value) : Prop where
  le : ce.length = 4
  lf : cf.length = 4
  oe : ∀ u ∈ ce, u.oneCell' = true
  of : ∀ u ∈ cf, u.oneCell' = true
  bv : bv.oneCell' = true
  ov : ov.oneCell' = true
section
variable {w w' : World} {B : Nat} {e g : ET} {lb lo : List ST} {ce cf : List Value} {bv ov : Value}
theorem Gd.keep {fp : List Nat} (h : Gd w B e g lb lo ce cf bv ov) (hk : Keep fp w w') (hfp : ∀ c ∈ fp, c < B) : Gd w' B e g lb lo ce cf bv ov := by
  obtain ⟨F, hF, h1, h2, h3, h4⟩ := h
  have hs : Stays F w fp := fun c hc => ⟨(hF c hc).2, fun hm => by have := hfp c hm; have := (hF c hc).1; omega⟩
  exact ⟨F, fun c hc => ⟨(hF c hc).1, Nat.lt_of_lt_of_le (hF c hc).2 hk.size⟩, h1.keep hk hs, h2.keep hk hs, h3.keep hk hs, h4.keep hk hs⟩
theorem zx_v {F : Nat → Prop} : ExprV F w zx zeroT := ExprV.of ExprsV.nil
theorem Gd.zero : Gd w B zeroT zeroT [] [] zx zx (.slice none 0 0) (.slice none 0 0) := ⟨fun _ => False, fun _ h => h.elim, zx_v, zx_v, StmtsV.nil, StmtsV.nil⟩
theorem Fm.zero : Fm zx zx (.slice none 0 0) (.slice none 0 0) :=
  ⟨rfl, rfl, by intro u hu; simp [zx] at hu; rcases hu with rfl | rfl <;> rfl, by intro u hu; simp [zx] at hu; rcases hu with rfl | rfl <;> rfl, rfl, rfl⟩
theorem scells_one {op v : Int} (h : Fm ce cf bv ov) : ∀ u ∈ scells op v ce cf bv ov, u.oneCell' = true := by
  intro u hu
  simp only [scells, List.mem_append, List.mem_cons, List.not_mem_nil, or_false] at hu
  rcases hu with (((rfl | rfl) | hu) | hu) | (rfl | rfl)
  · rfl
  · rfl
  · exact h.oe u hu
  · exact h.of u hu
  · exact h.bv
  · exact h.ov
theorem scells_len {op v : Int} (h : Fm ce cf bv ov) : (scells op v ce cf bv ov).length = 12 := by simp [scells, h.le, h.lf]
end
section
variable {op v : Int} {ce cf : List Value} {bv ov : Value}
theorem sp_v (v' : Int) : splice (scells op v ce cf bv ov) 1 [.int .i64 v'] = scells op v' ce cf bv ov := rfl
theorem sp_e (h : Fm ce cf bv ov) {cs : List Value} (hc : cs.length = 4) : splice (scells op v ce cf bv ov) 2 cs = scells op v cs cf bv ov := by
  obtain ⟨a, b, c, d, rfl⟩ := list4 h.le
  obtain ⟨a', b', c', d', rfl⟩ := list4 h.lf
  obtain ⟨x, y, z, t, rfl⟩ := list4 hc
  rfl
theorem sp_f (h : Fm ce cf bv ov) {cs : List Value} (hc : cs.length = 4) : splice (scells op v ce cf bv ov) 6 cs = scells op v ce cs bv ov := by
  obtain ⟨a, b, c, d, rfl⟩ := list4 h.le
  obtain ⟨a', b', c', d', rfl⟩ := list4 h.lf
  obtain ⟨x, y, z, t, rfl⟩ := list4 hc
  rfl
theorem sp_b (h : Fm ce cf bv ov) (x : Value) : splice (scells op v ce cf bv ov) 10 [x] = scells op v ce cf x ov := by
  obtain ⟨a, b, c, d, rfl⟩ := list4 h.le
  obtain ⟨a', b', c', d', rfl⟩ := list4 h.lf
  rfl
theorem sp_o (h : Fm ce cf bv ov) (x : Value) : splice (scells op v ce cf bv ov) 11 [x] = scells op v ce cf bv x := by
  obtain ⟨a, b, c, d, rfl⟩ := list4 h.le
  obtain ⟨a', b', c', d', rfl⟩ := list4 h.lf
  rfl
end


theorem built_v1 (s : ByteArray) : Tryz.prog.built 57 [(0, .string s)] = some [Value.string s, .int .i64 0].toArray := by kernel_rfl
theorem zero_v : ((Tryz.prog.info? 57).bind (·.zero)).map (·.cells) = some [Value.string ⟨#[]⟩, .int .i64 0].toArray := by kernel_rfl
theorem size_v : sizeOk Tryz.prog 57 2 = true := by kernel_rfl
theorem size_vs : sizeOk Tryz.prog 23 1 = true := by kernel_rfl
theorem slice_v (a b : Value) : sliceCells Tryz.prog 23 1 [(0, .agg #[a, b])] = some (57, #[a, b]) := by kernel_rfl


theorem toks_bound : ∀ {ts : List Tok} {m : Nat}, fine ts → textLen ts ≤ m → ts.length ≤ m ∧ ∀ t ∈ ts, t.text.length ≤ m
  | [], _, _, _ => ⟨Nat.zero_le _, fun t ht => by simp at ht⟩
  | x :: r, m, h, hm => by
    obtain ⟨⟨c, u, r0, h1, _⟩, h2⟩ := h
    simp only [textLen] at hm
    obtain ⟨i1, i2⟩ := toks_bound (m := m - x.text.length) h2 (by omega)
    rw [h1] at hm i1
    simp only [List.length_cons] at hm i1
    refine ⟨by simp only [List.length_cons]; omega, fun t ht => ?_⟩
    rcases List.mem_cons.1 ht with rfl | ht
    · rw [h1]; simp only [List.length_cons]; omega
    · have := i2 t ht
      omega
theorem scan_good {l : List UInt8} (h : (faultOf l).1 = 0) : l.length ≤ 6000 ∧ faultOf l = (0, 0) ∧ (toksOf l).length ≤ l.length ∧ ∀ t ∈ toksOf l, t.text.length ≤ l.length := by
  have hl : l.length ≤ 6000 := by
    by_cases hn : 6000 < l.length
    · unfold faultOf at h
      rw [if_pos hn] at h
      cases h
    · omega
  rcases fault_cases l hl with ⟨e, h1, _⟩ | ⟨ts, h1, h2, h3⟩
  · rw [h1] at h; cases h
  · have ⟨e1, e2⟩ := toks_fine _ _ _ _ h1
    rw [h3]
    exact ⟨hl, h2, toks_bound e1 e2⟩


def finP (vs : List VarT) (b : List ST) : Except Flt (List VarT × List ST) := if progFault vs b ≠ 0 then .error (progFault vs b, -1) else .ok (vs, b)

def restB (ts : List Tok) (fin : Nat) (vs : List VarT) (i : Nat) : Except Flt (List VarT × List ST) := bnd (bodyP ts fin vs i) fun q => finP vs q.1

theorem vars_own {w : World} {B e : Nat} {v : Value} {vs : List VarT} (h : Own w B e 2 v vs.length (vs.flatMap vcell)) : VarsV (fun c => v.ownBlock = some c) w v vs := by
  rcases h.2 with ⟨hv, h0⟩ | ⟨g, cap, cur, hv, hB, hb, hc, hl, ht⟩
  · have : vs = [] := List.eq_nil_of_length_eq_zero h0
    subst this
    exact ⟨none, 0, hv, by simp, fun h => absurd h (by simp)⟩
  · refine ⟨_, cap, hv, hc, fun h0 => ⟨g, 0, rfl, by rw [hv]; rfl, fun i hi => ?_⟩⟩
    have hx : vs[i]? = some vs[i] := List.getElem?_eq_getElem hi
    have hf := flat_at (f := vcell) (k := 2) (fun p _ => rfl) hx
    show w.rangeAt g (0 + i * 2) (vcell (vs.getD i (ByteArray.empty, 0)))
    rw [List.getD_eq_getElem?_getD, hx]
    rw [Nat.zero_add]
    refine hb.range ?_
    show (cur.drop (i * 2)).take 2 = vcell vs[i]
    rw [← hf, ← ht, List.drop_take, List.take_take, Nat.min_eq_left (by omega)]

end E
end Go.Proofs.YthbkcadiejfgaacGreatDoor

/- Plain mathematics for the landed reader: tokens that are looked at by their texts alone. -/
namespace Go.Proofs.YthbkcadiejfgaacGreatDoor
set_option maxRecDepth 20000
set_option maxHeartbeats 4000000
namespace E

/-- A text that no number begins as. -/
def headB : List UInt8 → Bool
  | [] => false
  | c :: _ => letB c || parenB c
theorem bit_numT {c : UInt8} {r t : List UInt8} {v : Int} (h : bit c r = .tok t true v) : parenB c = false ∧ letB c = false := by
  unfold bit at h
  split at h
  · cases h
  split at h
  · cases h
  rename_i h1
  split at h
  · cases h
  rename_i h2
  exact ⟨by simpa using h1, by simpa using h2⟩
theorem fine_get : ∀ {ts : List Tok}, fine ts → ∀ {i : Nat} {t : Tok}, ts[i]? = some t → ∃ c u r0, t.text = c :: u ∧ bit c r0 = .tok (c :: u) t.num t.val
  | [], _, _, _, h => by simp at h
  | x :: r, hf, 0, t, h => by
    simp only [List.getElem?_cons_zero, Option.some.injEq] at h
    subst h
    exact hf.1
  | x :: r, hf, i + 1, t, h => by
    simp only [List.getElem?_cons_succ] at h
    exact fine_get hf.2 h
theorem isT_none {ts : List Tok} {i : Nat} {s : List UInt8} (ht : ts[i]? = none) : isT ts i s = false := by
  unfold isT
  rw [ht]
theorem isT_get {ts : List Tok} {i : Nat} {t : Tok} {s : List UInt8} (h : fine ts) (ht : ts[i]? = some t) (hs : headB s = true) : isT ts i s = (t.text == s) := by
  unfold isT
  rw [ht]
  cases hn : t.num with
  | false => simp [hn]
  | true =>
    obtain ⟨c, u, r0, h1, h2⟩ := fine_get h ht
    rw [hn] at h2
    obtain ⟨h3, h4⟩ := bit_numT h2
    have hne : ¬ t.text = s := by
      intro e
      rw [← e, h1] at hs
      simp [headB, h3, h4] at hs
    simp [hn, hne]
/-- The first kind from k on, n of them, that is written so; 0: none is. -/
def kindL (of : Nat → List UInt8) (s : List UInt8) : Nat → Nat → Nat
  | _, 0 => 0
  | k, n + 1 => if of k == s then k else kindL of s (k + 1) n
theorem kindL_le {of : Nat → List UInt8} {s : List UInt8} : ∀ (n k : Nat), kindL of s k n = 0 ∨ (k ≤ kindL of s k n ∧ kindL of s k n < k + n)
  | 0, k => .inl rfl
  | n + 1, k => by
    unfold kindL
    split
    · exact .inr ⟨Nat.le_refl _, by omega⟩
    · rcases kindL_le n (k + 1) with h | h
      · exact .inl h
      · exact .inr ⟨by omega, by omega⟩
theorem pickK_kind {ts : List Tok} {i : Nat} {t : Tok} {of : Nat → List UInt8} {most : Nat} (h : fine ts) (ht : ts[i]? = some t) (hof : ∀ k, 1 ≤ k → k ≤ most → headB (of k) = true) :
    ∀ (n k : Nat), 1 ≤ k → k + n ≤ most + 1 → pickK ts of i k n = if kindL of t.text k n = 0 then none else some (kindL of t.text k n)
  | 0, k, _, _ => rfl
  | n + 1, k, h1, h2 => by
    unfold pickK kindL
    rw [isT_get h ht (hof k h1 (by omega)), pickK_kind h ht hof n (k + 1) (by omega) (by omega)]
    by_cases e : t.text = of k
    · have e1 : (t.text == of k) = true := by simp [e]
      have e2 : (of k == t.text) = true := by simp [e]
      rw [e1, e2]
      have : ¬ k = 0 := by omega
      simp [this]
    · have e1 : (t.text == of k) = false := by simp [e]
      have e2 : (of k == t.text) = false := by
        simp
        exact fun e' => e e'.symm
      rw [e1, e2]
      simp
theorem pickK_none {ts : List Tok} {i : Nat} {of : Nat → List UInt8} (ht : ts[i]? = none) : ∀ (n k : Nat), pickK ts of i k n = none
  | 0, _ => rfl
  | n + 1, k => by
    unfold pickK
    rw [isT_none ht, pickK_none ht n]
    rfl
theorem wrong_get {ts : List Tok} {fin i : Nat} {t : Tok} {code : Int} (ht : ts[i]? = some t) : wrongAt ts fin code i = (code, ((t.pos : Nat) : Int)) := by
  unfold wrongAt
  rw [ht]
theorem wrong_none {ts : List Tok} {fin i : Nat} (ht : ts[i]? = none) : wrongAt ts fin 5 i = (6, ((fin : Nat) : Int)) := by
  unfold wrongAt
  rw [ht]
  rfl
end E
end Go.Proofs.YthbkcadiejfgaacGreatDoor
