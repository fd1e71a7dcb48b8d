/- Several texts in one: IrG, LiftC. -/
import Derived.Test.YtmplkogkphmmjafGreatJ19
import Derived.Test.YtmplkogkphmmjafGreatJ04
/- The landed package ideal: contracts of run, Run; what the laws take of it. -/
namespace Go.Proofs.YtmplkogkphmmjafGreat
set_option maxRecDepth 20000
set_option maxHeartbeats 4000000
namespace E
open Go.Proofs

theorem zero_in : ((Tryz.prog.info? 3).bind (·.zero)).map (·.cells) = some [Value.int .i64 0].toArray := by kernel_rfl
theorem neIRu : 3 ≠ tRu := by decide
theorem neILg : 3 ≠ tLg := by decide
theorem loadVar_one {P : Program} {T : Tbl} {w : World} {t b i : Nat} {v : Value} (hT : T.check P = true) (ht : find T.one t = some ()) (hc : w.cell? ⟨b, i, none⟩ = some v) : (loadVar t ⟨b, i, none⟩).run P w = .ok v w := by
  have hs := Tbl.one_ok hT ht
  unfold oneOk at hs
  cases hu : P.underlying t with
  | none => simp [hu] at hs
  | some d =>
    have hagg : (isAgg t).run P w = .ok false w := by
      unfold isAgg
      rw [Sem.run_bind, run_underlying hu w]
      cases d <;> simp_all
    simp [loadVar, hagg, hc]
theorem Rt.other {C : Kx} {w w' : World} {s : Es} {x : Nat} {L : List Value} {e : TypeId} (h : Rt C w s) (hx : C.w0.heap.size ≤ x) (hb : Blk w x L e) (h1 : e ≠ tRu) (h2 : e ≠ tLg) (hk : Keep [x] w w') : Rt C w' s := by
  obtain ⟨u, o, h⟩ := h
  refine ⟨u, o, h.kp.trB hk hx, hk.blk h.bk ?_, h.un, h.rc.keep hk (h.rc.ne hb h2), h.ro.keep hk (h.ro.ne hb h2), h.ap, h.cl, h.le, h.ol⟩
  simp only [List.mem_singleton]
  exact Blk.ne h.bk hb h1.symm

section
variable {C : Kx} {w : World} {s : Es}
theorem iRun_ret (hC : C.Ok) (hz : szSs C.bd ≤ 1000) (hrn : rnSs C.vs.length C.bd) (h : Rt C w s) :
    Ret Tryz.prog 43 [.pointer (some ⟨C.b, 0, none⟩)] w fun r w' => ∃ (c : Nat) (s' : Es), r = .int .i64 (c : Nat) ∧ (c, s'.out, s'.cells, s'.n) = resX (evP C.vs C.inp C.fuel C.bd s) ∧ Rt C w' s' ∧ Rf w w' := by
  obtain ⟨vv', bv', hpe, _, hbb⟩ := hC.pr
  injection hpe with hpe
  have hpe2 := congrArg Array.toList hpe
  simp only [List.cons.injEq, and_true] at hpe2
  obtain ⟨_, hpe2⟩ := hpe2
  rw [← hpe2] at hbb
  refine ret_of 15 Tryz.func43 rfl rfl (by simp) ?_
  refine au ?_
  refine pl_op rfl rfl (opTo_allocN _ rfl zero_in ?_)
  intro w1 x2 hx2 hs1 hk1 hc1
  have h1 := h.keep0 hk1
  have hxw : C.w0.heap.size ≤ x2 := by have := h.kp.size; omega
  refine au ?_
  refine pl_defer (d := ⟨.fn (.func 73) #[.pointer (some ⟨x2, 0, none⟩)], #[]⟩) rfl rfl (fun a ha => ?_) ?_
  · have := ha.has 3 _ rfl
    simp [execOp, resolve, Act.eval, this, Deferred.ofValue]
  refine au ?_
  obtain ⟨u1, o1, hu1⟩ := h1
  refine pl_val _ rfl rfl (val_load1 hT rfl rfl rfl (hu1.bk.cell rfl)) ?_
  obtain ⟨TOT, hT0⟩ : ∃ TOT, TOT = evP C.vs C.inp C.fuel C.bd s := ⟨_, rfl⟩
  rw [← hT0]
  unfold evP at hT0
  refine pl_opD Tryz.func43 rfl rfl rfl (opE_call (fst := []) (cap := []) rfl rfl rfl rfl (by decide +kernel) (End.mono (gos_step (KK := fun r w' => ∃ s1, TOT = tick C.fuel s1 ∧ Rt C w' s1 ∧ Rf w1 w' ∧ r = .tuple #[]) (iStmts_all hC (szSs C.bd + 1) (by omega) C.bd (by omega) hrn hbb ⟨u1, o1, hu1⟩) hT0 (Rf.refl w1) (fun s1 r w' hX ⟨hr, _, h⟩ _ hR => ⟨s1, hX, h, hR, hr⟩)) ?_ ?_))
  rotate_left
  · rintro v w4 ⟨e, hX, rfl, h4, hR4⟩
    intro ac ha
    have hc4 := hR4.blk hc1 neIRu neILg
    refine ⟨fun h => (by cases h), .func 73, _, 73, [Value.pointer (some ⟨x2, 0, none⟩)].toArray, rfl, rfl, ?_⟩
    refine CallsD.mono' (iCaught hc4 e.1) ?_
    rintro en u' w5 ⟨rfl, rfl, hc5, hk5⟩
    refine ⟨.int .i64 (e.1 : Nat), ?_, .inl ⟨_, rfl, e.1, e.2, rfl, by rw [hX]; rfl, h4.other hxw hc4 neIRu neILg hk5, ((Rf.of0 hk1).tr hR4).trB hk5 (by omega)⟩⟩
    have i2 := ha.has 2 _ rfl
    have l2 : (loadVar 3 ⟨x2, 0, none⟩).run Tryz.prog w5 = .ok (.int .i64 (e.1 : Nat)) w5 := loadVar_one hT rfl (hc5.cell rfl)
    show (results Tryz.f43 ac.tmps).run _ _ = _
    simp only [results, show Tryz.f43.results = #[.cell 2 3] from rfl]
    simp [i2, asAddr, l2]
  rintro r w2 ⟨s1, hT2, h2, hR2, rfl⟩
  refine au ?_
  refine pl_opD Tryz.func43 rfl rfl rfl (opE_call (fst := []) (cap := []) rfl rfl rfl rfl (by decide +kernel) (End.mono (gos_step (KK := fun r w' => ∃ s1, TOT = .ok s1 ∧ Rt C w' s1 ∧ Rf w1 w' ∧ r = .tuple #[]) (iCount_end hC h2) (hT2.trans (bnd_id _)) hR2 (fun s1 r w' hX ⟨hr, _, h⟩ _ hR => ⟨s1, hX, h, hR, hr⟩)) ?_ ?_))
  rotate_left
  · rintro v w4 ⟨e, hX, rfl, h4, hR4⟩
    intro ac ha
    have hc4 := hR4.blk hc1 neIRu neILg
    refine ⟨fun h => (by cases h), .func 73, _, 73, [Value.pointer (some ⟨x2, 0, none⟩)].toArray, rfl, rfl, ?_⟩
    refine CallsD.mono' (iCaught hc4 e.1) ?_
    rintro en u' w5 ⟨rfl, rfl, hc5, hk5⟩
    refine ⟨.int .i64 (e.1 : Nat), ?_, .inl ⟨_, rfl, e.1, e.2, rfl, by rw [hX]; rfl, h4.other hxw hc4 neIRu neILg hk5, ((Rf.of0 hk1).tr hR4).trB hk5 (by omega)⟩⟩
    have i2 := ha.has 2 _ rfl
    have l2 : (loadVar 3 ⟨x2, 0, none⟩).run Tryz.prog w5 = .ok (.int .i64 (e.1 : Nat)) w5 := loadVar_one hT rfl (hc5.cell rfl)
    show (results Tryz.f43 ac.tmps).run _ _ = _
    simp only [results, show Tryz.f43.results = #[.cell 2 3] from rfl]
    simp [i2, asAddr, l2]
  rintro r w3 ⟨s3, hT3, h3, hR3, rfl⟩
  have hc3 := hR3.blk hc1 neIRu neILg
  refine au ?_
  refine pl_op rfl rfl (opTo_storeN [.int .i64 0] rfl rfl rfl rfl size_rn hc3 (by simp) (one_in _) ?_)
  intro w4 hs4 hk4 hc4
  rw [splice_whole (by rfl)] at hc4
  refine au ?_
  refine rn_retD Tryz.func43 rfl (fun ac ha => ⟨fun h => (by cases h), .func 73, _, 73, [Value.pointer (some ⟨x2, 0, none⟩)].toArray, rfl, rfl, ?_⟩)
  refine CallsD.mono' (iUncaught w4 x2) ?_
  rintro e u' w5 ⟨rfl, rfl, rfl⟩
  refine ⟨.int .i64 0, ?_, .inl ⟨_, rfl, 0, s3, rfl, by rw [hT3]; rfl, h3.other hxw hc3 neIRu neILg hk4, ((Rf.of0 hk1).tr hR3).trB hk4 (by omega)⟩⟩
  have i2 := ha.has 2 _ rfl
  have l2 : (loadVar 3 ⟨x2, 0, none⟩).run Tryz.prog w5 = .ok (.int .i64 0) w5 := loadVar_one hT rfl (hc4.cell rfl)
  show (results Tryz.f43 ac.tmps).run _ _ = _
  simp only [results, show Tryz.f43.results = #[.cell 2 3] from rfl]
  simp [i2, asAddr, l2]
end

/-! ### Run -/
section
variable {P : Program} {f n : Nat} {k : List Item} {K Kp : Value → World → Prop} {σ : Env} {w : World}
theorem rn_retCTT {fn : Func} {t0 ty t1 t2 : Nat} {ad : Addr} {v0 v1 v2 : Value} (hf : P.funcs[f]? = some fn) (hr : fn.results = #[.cell t0 ty, .tmp t1, .tmp t2]) (h0 : look σ t0 = some (.pointer (some ad))) (hl : (loadVar ty ad).run P w = .ok v0 w) (h1 : look σ t1 = some v1) (h2 : look σ t2 = some v2)
    (hR : K (.tuple #[v0, v1, v2]) w) : Rn P f n (.code .ret :: k) (endR K Kp) σ w := fun a ha hd =>
  runs_ret hf hd (by simp only [results, hr]; simp [ha.has t0 _ h0, asAddr, hl, ha.has t1 _ h1, ha.has t2 _ h2]) hR
end
theorem built_rm (a : Int) : Tryz.prog.built 88 [(1, .int .i64 a)] = some [Value.int .i64 0, .int .i64 a].toArray := by kernel_rfl
theorem built_ru (a : Int) (a1 a2 a3 a4 : Option Addr) (n1 c1 n2 c2 n3 c3 n4 c4 : Nat) : Tryz.prog.built tRu [(0, .agg #[.int .i64 0, .int .i64 a]), (1, .agg #[.slice a1 n1 c1, .slice a2 n2 c2]), (2, .slice a3 n3 c3), (3, .slice a4 n4 c4)] = some [Value.int .i64 0, .int .i64 a, .slice a1 n1 c1, .slice a2 n2 c2, .slice a3 n3 c3, .slice a4 n4 c4, .slice none 0 0].toArray := by kernel_rfl
theorem built_ir0 : Tryz.prog.built 35 [] = some (resC 0 (.slice none 0 0) (.slice none 0 0)).toArray := by kernel_rfl
theorem built_ir3 (c : Int) (a b : Option Addr) (n k m d : Nat) : Tryz.prog.built 35 [(0, .int .i64 c), (1, .slice a n k), (2, .slice b m d)] = some (resC c (.slice a n k) (.slice b m d)).toArray := by kernel_rfl
theorem sl_rl : intSl Tryz.prog 26 2 = true := by decide +kernel
theorem nePRu' : 25 ≠ tRu := by decide
theorem nePLg' : 25 ≠ tLg := by decide
theorem neReRu : 35 ≠ tRu := by decide
theorem neReLg : 35 ≠ tLg := by decide
theorem nw_nil (w : World) : Nw w (.slice none 0 0) := fun b q n c h => by cases h
theorem ls0 (w : World) : LsV w (.slice none 0 0) [] := ⟨none, 0, rfl, fun h => absurd h (by simp)⟩

theorem ideal_run {F : Nat → Prop} {w : World} {x iv : Value} {vs : List VarT} {body : List ST} {inp : List Int} (fuel : Int) (hp : ProgV F w x vs body) (hF : In F w) (hi : LsC w iv inp) (hvl : vs.length ≤ 100000) (hsz : szSs body ≤ 1000) (hil : inp.length ≤ 100000) :
    Ret Tryz.prog 18 [x, iv, .int .i64 fuel] w fun r w' => (∃ ov cv, r = .tuple #[.agg (resC (runI vs body inp fuel).code ov cv).toArray, .int .i64 (runI vs body inp fuel).used, .int .i64 (runI vs body inp fuel).fault] ∧ LsC w' ov (runI vs body inp fuel).out ∧ LsV w' cv (runI vs body inp fuel).cells ∧ Nw w ov ∧ Nw w cv) ∧ Keep [] w w' := by
  have hp0 := hp
  obtain ⟨vv, bv, rfl, hv, hb⟩ := hp
  obtain ⟨av, capv, rfl⟩ := hv.form
  obtain ⟨ab, capb, rfl⟩ := hb.form
  obtain ⟨⟨ia, icap, rfl, hir⟩, hic⟩ := hi
  have hic := hic _ _ _ rfl
  refine ret_of 56 Tryz.func18 rfl rfl (by simp) ?_
  refine au ?_
  refine pl_op rfl rfl (opTo_boxN [.slice av vs.length capv, .slice ab body.length capb] rfl rfl rfl ?_)
  intro w1 x3 hx3 hs1 hk1 hX1
  refine au ?_
  refine pl_op rfl rfl (opTo_allocN _ rfl zero_re ?_)
  intro w2 x6 hx6 hs2 hk2 hZ2
  have hk02 := hk1.tr hk2
  have hX2 := hk2.blk hX1 (by simp)
  refine au ?_
  refine pl_val (.agg #[.slice av vs.length capv, .slice ab body.length capb]) rfl rfl (val_load [.slice av vs.length capv, .slice ab body.length capb] hT rfl rfl rfl (hX2.range (by rfl))) ?_
  refine pl_op rfl rfl (opTo_call (fst := []) (cap := []) rfl rfl rfl rfl (by decide +kernel) ((check_ret (hp0.keep hk02 hF.stays) (hF.keep hk02) (by omega)).mono ?_))
  rintro r w3 ⟨rfl, hk3⟩
  have hk03 := hk02.tr hk3
  have hX3 := hk3.blk hX2 (by simp)
  have hZ3 := hk3.blk hZ2 (by simp)
  have hx6w : w.heap.size ≤ x6 := by have := hk1.size; omega
  refine au ?_
  by_cases hpf : ¬ progFault vs body = 0
  · refine ye ?_
    refine au ?_
    refine pl_val _ rfl rfl (val_build _ rfl rfl built_ir0 w3) ?_
    refine au ?_
    refine pl_op rfl rfl (opTo_storeN (resC 0 (.slice none 0 0) (.slice none 0 0)) rfl rfl rfl rfl size_re hZ3 (by simp [resC]) (resC_one _ _ _ _ _ _ _) ?_)
    intro w4 hs4 hk4 hZ4
    rw [splice_whole (by rfl)] at hZ4
    refine au ?_
    rw [runI_not hpf]
    exact rn_retCTT Tryz.func18 rfl rfl (blk_loadVar hT hZ4 rfl) rfl rfl ⟨⟨.slice none 0 0, .slice none 0 0, rfl, ls_nil _, ls0 _, nw_nil _, nw_nil _⟩, hk03.trB hk4 hx6w⟩
  replace hpf : progFault vs body = 0 := by omega
  rw [hpf]
  refine nay ?_
  refine au ?_
  by_cases hoff : ¬ (inp.length ≤ 40 ∧ 0 ≤ fuel ∧ fuel ≤ 3000)
  · rw [runI_off hpf hoff]
    by_cases hl1 : ¬ inp.length ≤ 40
    · refine ye ?_
      refine au ?_
      refine pl_val _ rfl rfl (val_build _ rfl rfl built_ir0 w3) ?_
      refine pl_op rfl rfl (opTo_storeN (resC 0 (.slice none 0 0) (.slice none 0 0)) rfl rfl rfl rfl size_re hZ3 (by simp [resC]) (resC_one _ _ _ _ _ _ _) ?_)
      intro w4 hs4 hk4 hZ4
      rw [splice_whole (by rfl)] at hZ4
      refine au ?_
      exact rn_retCTT Tryz.func18 rfl rfl (blk_loadVar hT hZ4 rfl) rfl rfl ⟨⟨.slice none 0 0, .slice none 0 0, rfl, ls_nil _, ls0 _, nw_nil _, nw_nil _⟩, hk03.trB hk4 hx6w⟩
    refine nay ?_
    refine au ?_
    by_cases hl2 : fuel < 0
    · refine ye ?_
      refine au ?_
      refine pl_val _ rfl rfl (val_build _ rfl rfl built_ir0 w3) ?_
      refine pl_op rfl rfl (opTo_storeN (resC 0 (.slice none 0 0) (.slice none 0 0)) rfl rfl rfl rfl size_re hZ3 (by simp [resC]) (resC_one _ _ _ _ _ _ _) ?_)
      intro w4 hs4 hk4 hZ4
      rw [splice_whole (by rfl)] at hZ4
      refine au ?_
      exact rn_retCTT Tryz.func18 rfl rfl (blk_loadVar hT hZ4 rfl) rfl rfl ⟨⟨.slice none 0 0, .slice none 0 0, rfl, ls_nil _, ls0 _, nw_nil _, nw_nil _⟩, hk03.trB hk4 hx6w⟩
    refine nay ?_
    refine au ?_
    refine ye ?_
    refine au ?_
    refine pl_val _ rfl rfl (val_build _ rfl rfl built_ir0 w3) ?_
    refine pl_op rfl rfl (opTo_storeN (resC 0 (.slice none 0 0) (.slice none 0 0)) rfl rfl rfl rfl size_re hZ3 (by simp [resC]) (resC_one _ _ _ _ _ _ _) ?_)
    intro w4 hs4 hk4 hZ4
    rw [splice_whole (by rfl)] at hZ4
    refine au ?_
    exact rn_retCTT Tryz.func18 rfl rfl (blk_loadVar hT hZ4 rfl) rfl rfl ⟨⟨.slice none 0 0, .slice none 0 0, rfl, ls_nil _, ls0 _, nw_nil _, nw_nil _⟩, hk03.trB hk4 hx6w⟩
  have hon : inp.length ≤ 40 ∧ 0 ≤ fuel ∧ fuel ≤ 3000 := by omega
  obtain ⟨hl1, hl2, hl3⟩ := hon
  rw [runI_in hpf hl1 hl2 hl3]
  obtain ⟨fu, rfl⟩ : ∃ fu : Nat, fuel = (fu : Nat) := ⟨fuel.toNat, by omega⟩
  rw [Int.toNat_natCast]
  obtain ⟨hv8, hcv, kk, hkk⟩ := progFault_ok hpf
  obtain ⟨hszs, hsum⟩ := chkV_sizes hcv
  have hsum := hsum (by omega)
  have hsum0 := sumV_nonneg hszs
  have hrn := chkSs_rn body hkk
  have hsized : Sized vs := ⟨by omega, fun x hx => by have := hszs x hx; omega⟩
  have hcellN : cellOf vs (vs.length : Nat) = (((sumV vs).toNat : Nat) : Int) := by
    unfold cellOf
    rw [Int.toNat_natCast, List.take_length]
    omega
  refine nay ?_
  refine au ?_
  refine nay ?_
  refine au ?_
  refine nay ?_
  refine au ?_
  refine rn_draw (fun w' => Keep [] w3 w') [] hMix ?_
  have hS : Keep [] w3 w3.drew := (Keep.refl _ _).drew
  generalize w3.drew = w4 at *
  refine tk 0 ?_
  refine dr_any 1 _ rfl (by decide +kernel) rfl rfl (fun w => val_build _ rfl rfl (built_rm (fu : Nat)) w) ?_
  refine dr_val 2 (.agg #[.slice av vs.length capv, .slice ab body.length capb]) rfl (by decide +kernel) rfl rfl (fun w9 hS9 => val_load [.slice av vs.length capv, .slice ab body.length capb] hT rfl rfl rfl ((hS9.blk hX3 (by simp)).range (by rfl))) hS ?_
  refine tk 3 ?_
  refine dr_val 4 (.agg #[.slice av vs.length capv, .slice ab body.length capb]) rfl (by decide +kernel) rfl rfl (fun w9 hS9 => val_load [.slice av vs.length capv, .slice ab body.length capb] hT rfl rfl rfl ((hS9.blk hX3 (by simp)).range (by rfl))) hS ?_
  refine dr_op 5 rfl (by decide +kernel) rfl rfl (opTo_call (fst := []) (cap := []) rfl rfl rfl rfl (by decide +kernel) ((cells_ret (hp0.keep (hk03.tr hS) hF.stays) (hF.keep (hk03.tr hS)) hsized).mono ?_))
  rintro r w5 ⟨rfl, hk5⟩
  rw [hcellN]
  refine ⟨fun _ => hS.tr hk5, ?_⟩
  refine dr_op 6 rfl (by decide +kernel) rfl rfl (opTo_makeI 2 (sumV vs).toNat rfl rfl rfl sl_rl (by omega) ?_)
  intro w6 g hg hs6 hk6 hG6
  refine ⟨fun _ => (hS.tr hk5).tr hk6, ?_⟩
  refine dr_any 7 _ rfl (by decide +kernel) rfl rfl (fun w => val_build _ rfl rfl (built_ru (fu : Nat) av ab ia (some ⟨g, 0, none⟩) vs.length capv body.length capb inp.length icap (sumV vs).toNat (sumV vs).toNat) w) ?_
  refine dr_op 8 rfl (by decide +kernel) rfl rfl (opTo_boxN [.int .i64 0, .int .i64 (fu : Nat), .slice av vs.length capv, .slice ab body.length capb, .slice ia inp.length icap, .slice (some ⟨g, 0, none⟩) (sumV vs).toNat (sumV vs).toNat, .slice none 0 0] rfl rfl rfl ?_)
  intro w7 b hb0 hs7 hk7 hB7
  have hk37 := ((hS.tr hk5).tr hk6).tr hk7
  refine ⟨fun _ => hk37, ?_⟩
  refine tk 9 ?_
  refine dr_done (by decide +kernel) ?_
  have hk07 := hk03.tr hk37
  have hgw : w.heap.size ≤ g := by have := (hk03.tr (hS.tr hk5)).size; omega
  have hbw : w.heap.size ≤ b := by have := (hk03.tr ((hS.tr hk5).tr hk6)).size; omega
  have hG7 := hk7.blk hG6 (by simp)
  have hZ7 := hk37.blk hZ3 (by simp)
  obtain ⟨C, hCe⟩ : ∃ C : Kx, C = ⟨vs, body, F, inp, fu, w, b, .slice av vs.length capv, .slice ab body.length capb, .slice (some ⟨g, 0, none⟩) (sumV vs).toNat (sumV vs).toNat⟩ := ⟨_, rfl⟩
  have hC : C.Ok := by
    rw [hCe]
    exact ⟨hp0, hF, hszs, hv8, by show sumV vs ≤ 48; omega, by show fu ≤ 3000; omega, hl1, hbw⟩
  have h7 : Rt C w7 (es0 (sumV vs).toNat) := by
    rw [hCe]
    refine ⟨.slice ia inp.length icap, .slice none 0 0, hk07, hB7, ⟨ia, icap, rfl, hic, Nat.zero_le _, fun h0 => ?_⟩, ⟨by rw [lgs_length]; simp [es0], .inr ⟨g, (sumV vs).toNat, List.replicate (sumV vs).toNat (.int .i64 0), by simp [es0], hgw, hG7, by simp [es0], by simp, ?_⟩⟩, RowL.nil _ _, fun k _ hm => by simp [obs, Value.ownBlock] at hm, by simp [es0]; omega, Nat.zero_le _, Nat.le_refl _⟩
    · exact hir h0
    · simp [es0, lgs]
  have hRun := iRun_ret hC (by rw [hCe]; exact hsz) (by rw [hCe]; exact hrn) h7
  have hCb : C.b = b := by rw [hCe]
  have hCX : evP C.vs C.inp C.fuel C.bd (es0 (sumV vs).toNat) = saysX vs body inp fu := by rw [hCe]; rfl
  rw [hCb, hCX] at hRun
  refine au ?_
  refine pl_op rfl rfl (opTo_call (fst := []) (cap := []) rfl rfl rfl rfl (by decide +kernel) (hRun.mono ?_))
  rintro r w8 ⟨c, s8, rfl, hres, ⟨u8, o8, h8⟩, hR8⟩
  have hZ8 := hR8.blk hZ7 neReRu neReLg
  rw [← hres]
  have h8c := h8.rc
  have h8o := h8.ro
  have h8b := h8.bk
  have h8k := h8.kp
  have h8l := h8.cl
  rw [hCe] at h8c h8o h8b h8k h8l
  dsimp only at h8c h8o h8b h8k h8l
  obtain ⟨oa, oc, rfl⟩ := h8o.form
  have hxb : x6 ≠ b := Blk.ne hZ8 h8b neReRu
  refine au ?_
  refine rn_draw (fun w' => Keep [x6] w8 w') [] hMix ?_
  have hS8 : Keep [x6] w8 w8.drew := (Keep.refl _ _).drew
  have hS0 : Keep [] w8 w8.drew := (Keep.refl _ _).drew
  generalize w8.drew = w9 at *
  refine tk 0 ?_
  refine tk 1 ?_
  refine tk 2 ?_
  refine tk 3 ?_
  refine dr_val 4 (.slice oa s8.out.length oc) rfl (by decide +kernel) rfl rfl (fun w9 hS9 => val_load1 hT rfl rfl rfl ((hS9.blk h8b (by simp; exact hxb.symm)).cell rfl)) hS8 ?_
  refine tk 5 ?_
  refine tk 6 ?_
  refine tk 7 ?_
  refine dr_val 8 (.slice (some ⟨g, 0, none⟩) (sumV vs).toNat (sumV vs).toNat) rfl (by decide +kernel) rfl rfl (fun w9 hS9 => val_load1 hT rfl rfl rfl ((hS9.blk h8b (by simp; exact hxb.symm)).cell rfl)) hS8 ?_
  refine dr_any 9 _ rfl (by decide +kernel) rfl rfl (fun w => val_build _ rfl rfl (built_ir3 (c : Nat) oa (some ⟨g, 0, none⟩) s8.out.length oc (sumV vs).toNat (sumV vs).toNat) w) ?_
  refine tk 10 ?_
  refine tk 11 ?_
  refine tk 12 ?_
  refine tk 13 ?_
  refine dr_val 14 (.int .i64 (s8.n : Nat)) rfl (by decide +kernel) rfl rfl (fun w9 hS9 => val_load1 hT rfl rfl rfl ((hS9.blk h8b (by simp; exact hxb.symm)).cell rfl)) hS8 ?_
  have hZ9 := hS0.blk hZ8 (by simp)
  refine dr_op 15 rfl (by decide +kernel) rfl rfl (opTo_storeN (resC (c : Nat) (.slice oa s8.out.length oc) (.slice (some ⟨g, 0, none⟩) (sumV vs).toNat (sumV vs).toNat)) rfl rfl rfl rfl size_re hZ9 (by simp [resC]) (resC_one _ _ _ _ _ _ _) ?_)
  intro w10 hs10 hk10 hZ10
  rw [splice_whole (by rfl)] at hZ10
  refine ⟨fun _ => hS8.tr hk10, ?_⟩
  refine tk 16 ?_
  refine tk 17 ?_
  refine dr_done (by decide +kernel) ?_
  have hk8 : Keep [x6] w8 w10 := hS8.tr hk10
  have ho10 := h8o.keep hk8 (h8o.ne hZ8 neReLg)
  have hc10 := h8c.keep hk8 (h8c.ne hZ8 neReLg)
  have hcap := ho10.cap
  refine au ?_
  refine rn_retCTT Tryz.func18 rfl rfl (blk_loadVar hT hZ10 rfl) rfl rfl ⟨⟨.slice oa s8.out.length oc, .slice (some ⟨g, 0, none⟩) (sumV vs).toNat (sumV vs).toNat, rfl, ⟨ho10.lies, fun a n cap he => ?_⟩, hc10.lies, fun k q n c he _ => ?_, fun k q n c he _ => ?_⟩, h8k.trB hk8 hx6w⟩
  · injection he with e1 e2 e3
    rw [← e2, ← e3]
    exact hcap
  · exact (h8o.lt k (by rw [he]; simp [obs, Value.ownBlock])).1
  · exact (h8c.lt k (by rw [he]; simp [obs, Value.ownBlock])).1
theorem idC : IdC := ⟨fun fuel hp hF hi hv hs hl => ideal_run fuel hp hF hi hv hs hl⟩
end E
end Go.Proofs.YtmplkogkphmmjafGreat

/- Programs, as an argument of a law is read, are such as the walks know. -/
namespace Go.Proofs.YtmplkogkphmmjafGreat
set_option maxRecDepth 20000
set_option maxHeartbeats 4000000
namespace E
open Go.Proofs

/-- A program whose slice of statements is no longer than its capacity. -/
def CapB (x : Value) : Prop := ∃ vv a n c, x = .agg #[vv, .slice a n c] ∧ n ≤ c
section
variable {H : Type} {enc : TypeId × Value → H} {w : World} {base : Nat} {spare : Nat → Bool} {held : Bool}

theorem cInt : Tryz.prog.cellsOf 3 = 1 := by decide +kernel
theorem cLong : Tryz.prog.cellsOf 2 = 1 := by decide +kernel
theorem cStr : Tryz.prog.cellsOf 9 = 1 := by decide +kernel
theorem cLE : Tryz.prog.cellsOf 92 = 1 := by decide +kernel
theorem cLS : Tryz.prog.cellsOf 23 = 1 := by decide +kernel
theorem cLV : Tryz.prog.cellsOf 22 = 1 := by decide +kernel
theorem cE4 : Tryz.prog.cellsOf 94 = 4 := by decide +kernel
theorem cS12 : Tryz.prog.cellsOf 97 = 12 := by decide +kernel
theorem cV2 : Tryz.prog.cellsOf 67 = 2 := by decide +kernel
theorem cP2 : Tryz.prog.cellsOf 25 = 2 := by decide +kernel

theorem exprSplit : ExprSplit enc Tryz.prog w base spare held 3 2 92 94 := by
  intro fuel cs x h
  obtain ⟨xs, n, hn, _, hl, hlen, hf⟩ := DataW.trod_struct Tryz.underlying94 h
  rw [cE4] at hl
  obtain ⟨c0, c1, c2, c3, rfl⟩ := list4 hl
  have f0 : DataW.trod enc Tryz.prog w base spare held n 3 (([c0, c1, c2, c3].drop 0).take (Tryz.prog.cellsOf 3)) = xs[0]? := hf 0 _ rfl
  have f1 : DataW.trod enc Tryz.prog w base spare held n 3 (([c0, c1, c2, c3].drop 1).take (Tryz.prog.cellsOf 3)) = xs[1]? := hf 1 _ rfl
  have f2 : DataW.trod enc Tryz.prog w base spare held n 2 (([c0, c1, c2, c3].drop 2).take (Tryz.prog.cellsOf 2)) = xs[2]? := hf 2 _ rfl
  have f3 : DataW.trod enc Tryz.prog w base spare held n 92 (([c0, c1, c2, c3].drop 3).take (Tryz.prog.cellsOf 92)) = xs[3]? := hf 3 _ rfl
  have hx : ∀ i, i < 4 → ∃ y, xs[i]? = some y := fun i hi => ⟨xs[i]'(by rw [hlen]; exact hi), List.getElem?_eq_getElem _⟩
  obtain ⟨y0, e0⟩ := hx 0 (by decide)
  obtain ⟨y1, e1⟩ := hx 1 (by decide)
  obtain ⟨y2, e2⟩ := hx 2 (by decide)
  obtain ⟨y3, e3⟩ := hx 3 (by decide)
  rw [e0, cInt] at f0
  rw [e1, cInt] at f1
  rw [e2, cLong] at f2
  rw [e3, cLE] at f3
  exact ⟨n, c0, c1, c2, c3, hn, rfl, ⟨y0, f0⟩, ⟨y1, f1⟩, ⟨y2, f2⟩, ⟨y3, f3⟩⟩

theorem list12P {cs : List Value} (h : cs.length = 12) : ∃ a b c d e f g i j k l m, cs = [a, b, c, d, e, f, g, i, j, k, l, m] := by
  match cs, h with
  | [a, b, c, d, e, f, g, i, j, k, l, m], _ => exact ⟨a, b, c, d, e, f, g, i, j, k, l, m, rfl⟩

theorem stmtSplit : StmtSplit enc Tryz.prog w base spare held 3 94 23 97 := by
  intro fuel cs x h
  obtain ⟨xs, n, hn, _, hl, hlen, hf⟩ := DataW.trod_struct Tryz.underlying97 h
  rw [cS12] at hl
  obtain ⟨c0, c1, d0, d1, d2, d3, g0, g1, g2, g3, cb, co, rfl⟩ := list12P hl
  have f0 : DataW.trod enc Tryz.prog w base spare held n 3 (([c0, c1, d0, d1, d2, d3, g0, g1, g2, g3, cb, co].drop 0).take (Tryz.prog.cellsOf 3)) = xs[0]? := hf 0 _ rfl
  have f1 : DataW.trod enc Tryz.prog w base spare held n 3 (([c0, c1, d0, d1, d2, d3, g0, g1, g2, g3, cb, co].drop 1).take (Tryz.prog.cellsOf 3)) = xs[1]? := hf 1 _ rfl
  have f2 : DataW.trod enc Tryz.prog w base spare held n 94 (([c0, c1, d0, d1, d2, d3, g0, g1, g2, g3, cb, co].drop 2).take (Tryz.prog.cellsOf 94)) = xs[2]? := hf 2 _ rfl
  have f3 : DataW.trod enc Tryz.prog w base spare held n 94 (([c0, c1, d0, d1, d2, d3, g0, g1, g2, g3, cb, co].drop 6).take (Tryz.prog.cellsOf 94)) = xs[3]? := hf 3 _ rfl
  have f4 : DataW.trod enc Tryz.prog w base spare held n 23 (([c0, c1, d0, d1, d2, d3, g0, g1, g2, g3, cb, co].drop 10).take (Tryz.prog.cellsOf 23)) = xs[4]? := hf 4 _ rfl
  have f5 : DataW.trod enc Tryz.prog w base spare held n 23 (([c0, c1, d0, d1, d2, d3, g0, g1, g2, g3, cb, co].drop 11).take (Tryz.prog.cellsOf 23)) = xs[5]? := hf 5 _ rfl
  have hx : ∀ i, i < 6 → ∃ y, xs[i]? = some y := fun i hi => ⟨xs[i]'(by rw [hlen]; exact hi), List.getElem?_eq_getElem _⟩
  obtain ⟨y0, e0⟩ := hx 0 (by decide)
  obtain ⟨y1, e1⟩ := hx 1 (by decide)
  obtain ⟨y2, e2⟩ := hx 2 (by decide)
  obtain ⟨y3, e3⟩ := hx 3 (by decide)
  obtain ⟨y4, e4⟩ := hx 4 (by decide)
  obtain ⟨y5, e5⟩ := hx 5 (by decide)
  rw [e0, cInt] at f0
  rw [e1, cInt] at f1
  rw [e2, cE4] at f2
  rw [e3, cE4] at f3
  rw [e4, cLS] at f4
  rw [e5, cLS] at f5
  exact ⟨n, c0, c1, [d0, d1, d2, d3], [g0, g1, g2, g3], cb, co, hn, rfl, ⟨y0, f0⟩, ⟨y1, f1⟩, ⟨y2, f2⟩, ⟨y3, f3⟩, ⟨y4, f4⟩, ⟨y5, f5⟩⟩

theorem varSplit : VarSplit enc Tryz.prog w base spare held 9 3 67 := by
  intro fuel cs x h
  obtain ⟨xs, n, hn, _, hl, hlen, hf⟩ := DataW.trod_struct Tryz.underlying67 h
  rw [cV2] at hl
  match cs, hl with
  | [c0, c1], _ =>
    have f0 : DataW.trod enc Tryz.prog w base spare held n 9 (([c0, c1].drop 0).take (Tryz.prog.cellsOf 9)) = xs[0]? := hf 0 _ rfl
    have f1 : DataW.trod enc Tryz.prog w base spare held n 3 (([c0, c1].drop 1).take (Tryz.prog.cellsOf 3)) = xs[1]? := hf 1 _ rfl
    have hx : ∀ i, i < 2 → ∃ y, xs[i]? = some y := fun i hi => ⟨xs[i]'(by rw [hlen]; exact hi), List.getElem?_eq_getElem _⟩
    obtain ⟨y0, e0⟩ := hx 0 (by decide)
    obtain ⟨y1, e1⟩ := hx 1 (by decide)
    rw [e0, cStr] at f0
    rw [e1, cInt] at f1
    exact ⟨n, c0, c1, hn, rfl, ⟨y0, f0⟩, ⟨y1, f1⟩⟩

theorem prog_ofC {cs : Array Value} {d : DataW H} {ps : List MemPlace} (h : DataW.Trod enc Tryz.prog w base spare held 25 (.agg cs) d ps) : ∃ vs body, ProgV (fun b => b < w.heap.size) w (.agg cs) vs body ∧ CapB (.agg cs) := by
  obtain ⟨fuel, hf0⟩ := h
  obtain ⟨xs, n, _, _, hl, hlen, hf⟩ := DataW.trod_struct Tryz.underlying25 hf0
  rw [cP2] at hl
  have hl' : cs.toList.length = 2 := hl
  obtain ⟨c0, c1, hcs⟩ : ∃ c0 c1, cs.toList = [c0, c1] := by
    match cs.toList, hl' with
    | [c0, c1], _ => exact ⟨c0, c1, rfl⟩
  have f0 : DataW.trod enc Tryz.prog w base spare held n 22 ((cs.toList.drop 0).take (Tryz.prog.cellsOf 22)) = xs[0]? := hf 0 _ rfl
  have f1 : DataW.trod enc Tryz.prog w base spare held n 23 ((cs.toList.drop 1).take (Tryz.prog.cellsOf 23)) = xs[1]? := hf 1 _ rfl
  have hx : ∀ i, i < 2 → ∃ y, xs[i]? = some y := fun i hi => ⟨xs[i]'(by rw [hlen]; exact hi), List.getElem?_eq_getElem _⟩
  obtain ⟨y0, e0⟩ := hx 0 (by decide)
  obtain ⟨y1, e1⟩ := hx 1 (by decide)
  rw [e0, cLV, hcs] at f0
  rw [e1, cLS, hcs] at f1
  obtain ⟨vv, vs, hvv, hV⟩ := trod_vars Tryz.underlying9 Tryz.underlying3 Tryz.underlying22 cV2 varSplit f0
  obtain ⟨a, cap, L, cc, hc, hr, hq, hcap⟩ := open_rows (Q := StmtV (fun b => b < w.heap.size) w) 12 (by decide) Tryz.underlying23 cS12 (fun m _ cs x h => trod_stmt Tryz.underlying3 Tryz.underlying2 Tryz.underlying92 cE4 exprSplit Tryz.underlying23 cS12 stmtSplit m cs x h) f1
  simp at hvv hc
  subst hvv
  subst hc
  have hagg : Value.agg cs = .agg #[c0, .slice a L.length cap] := by
    congr 1
    apply Array.ext'
    rw [hcs]
  exact ⟨vs, L, ⟨c0, .slice a L.length cap, hagg, hV, a, cap, cc, rfl, hr, hq⟩, c0, a, L.length, cap, hagg, hcap⟩
theorem prog_of {cs : Array Value} {d : DataW H} {ps : List MemPlace} (h : DataW.Trod enc Tryz.prog w base spare held 25 (.agg cs) d ps) : ∃ vs body, ProgV (fun b => b < w.heap.size) w (.agg cs) vs body :=
  let ⟨vs, body, h, _⟩ := prog_ofC h
  ⟨vs, body, h⟩
end
end E
end Go.Proofs.YtmplkogkphmmjafGreat
