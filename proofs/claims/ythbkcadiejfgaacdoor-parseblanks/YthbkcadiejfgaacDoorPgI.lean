/- The landed package: read, Parse; what the laws take of it. -/
import Derived.Test.YthbkcadiejfgaacDoorJ13
import Derived.Test.YthbkcadiejfgaacDoorJ06
namespace Go.Proofs.YthbkcadiejfgaacDoor
set_option maxRecDepth 20000
set_option maxHeartbeats 4000000
namespace E
open Go.Proofs

theorem built_rd (a : Option Addr) (n c : Nat) (fin : Int) : Tryd.prog.built 72 [(0, .slice a n c), (1, .int .i64 fin)] = some [Value.slice a n c, .int .i64 fin, .slice none 0 0].toArray := by kernel_rfl

theorem read_ret {w : World} {B : Nat} {lv : Value} {ts : List Tok} (fin : Nat) (hct : Ct ts) (hw : Lw w) (hl : Own w B 32 4 lv ts.length (ts.flatMap tokL)) :
    Ret Tryd.prog 20 [lv, .int .i64 (fin : Nat)] w fun r w' => (∃ x, r = .tuple #[x, .agg #[.int .i64 (fltOf (readP ts fin)).1, .int .i64 (fltOf (readP ts fin)).2]] ∧ PgR w w' x (prgOf (readP ts fin)).1 (prgOf (readP ts fin)).2) ∧ Keep [] w w' := by
  obtain ⟨al, cl, rfl⟩ := hl.form
  refine ret_of 15 Tryd.func20 rfl rfl (by simp) ?_
  (repeat (first | refine pl_pure hT rfl rfl rfl ?_ | refine pl_nil ?_ | refine rn_seq ?_ | refine rn_plain ?_ | refine rn_block ?_ | refine rn_inBlock ?_ | refine rn_skip ?_ | refine rn_true rfl ?_ | refine rn_false rfl ?_ | refine rn_exit rfl ?_ | refine pl_not rfl rfl ?_))
  refine pl_op rfl rfl (opTo_allocN _ rfl zero_pr ?_)
  intro w1 b4 hb40 hs1 hk1 hp1
  refine pl_op rfl rfl (opTo_allocN _ rfl zero_fault ?_)
  intro w2 b5 hb50 hs2 hk2 hf2
  have hp2 := hk2.blk hp1 (by simp)
  have hk02 := hk1.tr hk2
  (repeat (first | refine pl_pure hT rfl rfl rfl ?_ | refine pl_nil ?_ | refine rn_seq ?_ | refine rn_plain ?_ | refine rn_block ?_ | refine rn_inBlock ?_ | refine rn_skip ?_ | refine rn_true rfl ?_ | refine rn_false rfl ?_ | refine rn_exit rfl ?_ | refine pl_not rfl rfl ?_))
  refine pl_defer (d := ⟨.fn (.func 30) #[.pointer (some ⟨b5, 0, none⟩)], #[]⟩) rfl rfl (fun a ha => ?_) ?_
  · have := ha.has 7 _ rfl
    simp [execOp, resolve, Act.eval, this, Deferred.ofValue]
  (repeat (first | refine pl_pure hT rfl rfl rfl ?_ | refine pl_nil ?_ | refine rn_seq ?_ | refine rn_plain ?_ | refine rn_block ?_ | refine rn_inBlock ?_ | refine rn_skip ?_ | refine rn_true rfl ?_ | refine rn_false rfl ?_ | refine rn_exit rfl ?_ | refine pl_not rfl rfl ?_))
  refine pl_val _ rfl rfl (val_build _ rfl rfl (built_rd al ts.length cl (fin : Nat)) w2) ?_
  refine pl_op rfl rfl (opTo_boxN (rdC (.slice al ts.length cl) fin (.slice none 0 0)) rfl rfl rfl ?_)
  intro w3 b hb0 hs3 hk3 hz3
  (repeat (first | refine pl_pure hT rfl rfl rfl ?_ | refine pl_nil ?_ | refine rn_seq ?_ | refine rn_plain ?_ | refine rn_block ?_ | refine rn_inBlock ?_ | refine rn_skip ?_ | refine rn_true rfl ?_ | refine rn_false rfl ?_ | refine rn_exit rfl ?_ | refine pl_not rfl rfl ?_))
  have hl3 := hl.keep (hk02.tr hk3) (by simp)
  have h3 : Rd w2 (.slice al ts.length cl) ts fin b (.slice none 0 0) [] w3 0 := by
    refine ⟨Nat.zero_le _, hk3, by omega, ⟨B, hl3⟩, Own.nil _ _ _ _, ⟨al, cl, by rw [Nat.sub_zero]; exact hz3, by rw [Nat.sub_zero]; exact own_cap hl, fun h0 => ?_⟩⟩
    rcases hl.2 with ⟨_, h2⟩ | ⟨g, cap, cur, h1, _⟩
    · omega
    · injection h1 with h1 _ h2
      subst h1 h2
      exact ⟨g, _, rfl, rfl⟩
  refine pl_opD Tryd.func20 rfl rfl rfl (opE_call (fst := []) (cap := []) rfl rfl rfl rfl (by decide +kernel) (End.mono (program_end hct (hw.keep hk02) h3) ?_ ?_))
  · rintro r w4 ⟨⟨vs, body⟩, hX, hP, hk4⟩
    obtain ⟨⟨vv, a, n, c, rfl, hnc⟩, _⟩ := hP.1, hP
    obtain ⟨F, ⟨vv', bv', he, hv, _⟩, _⟩ := hP.2
    have hvv : vv = vv' := by
      injection he with he
      have := congrArg Array.toList he
      simp at this
      exact this.1
    subst hvv
    obtain ⟨av, cv, rfl⟩ := hv.form
    have hp4 := hk4.blk hp2 (by simp)
    have hf4 := hk4.blk hf2 (by simp)
    refine pl_val _ rfl rfl (val_build _ rfl rfl built_fault0 w4) ?_
    refine pl_op rfl rfl (opTo_storeN [.slice av vs.length cv, .slice a n c] rfl rfl rfl rfl size_pr hp4 (by simp [pz]) (one_pr _ _ _ _ _ _) ?_)
    intro w5 hs5 hk5 hp5
    rw [splice_whole (by rfl)] at hp5
    have hf5 := hk5.blk hf4 (by simp; omega)
    refine pl_op rfl rfl (opTo_storeN [.int .i64 0, .int .i64 0] rfl rfl rfl rfl size_fault hf5 (by simp) (one_fault _ _) ?_)
    intro w6 hs6 hk6 hf6
    rw [splice_whole (by rfl)] at hf6
    have hp6 := hk6.blk hp5 (by simp; omega)
    (repeat (first | refine pl_pure hT rfl rfl rfl ?_ | refine pl_nil ?_ | refine rn_seq ?_ | refine rn_plain ?_ | refine rn_block ?_ | refine rn_inBlock ?_ | refine rn_skip ?_ | refine rn_true rfl ?_ | refine rn_false rfl ?_ | refine rn_exit rfl ?_ | refine pl_not rfl rfl ?_))
    refine rn_retD Tryd.func20 rfl (fun ac ha => ⟨fun h => (by cases h), .func 30, _, 30, [Value.pointer (some ⟨b5, 0, none⟩)].toArray, rfl, rfl, ?_⟩)
    refine CallsD.mono' (uncaught w6 b5) ?_
    rintro e u' w7 ⟨rfl, rfl, rfl⟩
    refine ⟨.tuple #[.agg #[.slice av vs.length cv, .slice a n c], .agg #[.int .i64 0, .int .i64 0]], ?_, .inl ⟨_, rfl, ⟨.agg #[.slice av vs.length cv, .slice a n c], ?_, ?_⟩, ?_⟩⟩
    · have i4 := ha.has 4 _ rfl
      have i5 := ha.has 5 _ rfl
      have l4 := blk_loadVar (t := 38) hT hp6 rfl
      have l5 := blk_loadVar (t := 25) hT hf6 rfl
      show (results Tryd.f20 ac.tmps).run _ _ = _
      simp only [results, show Tryd.f20.results = #[.cell 4 38, .cell 5 25] from rfl]
      simp [i4, i5, asAddr, l4, l5]
    · rw [hX]
      rfl
    · rw [hX]
      have hP6 : PgR w2 w7 (.agg #[.slice av vs.length cv, .slice a n c]) vs body := (hP.keep hk5 (by simp; omega)).keep hk6 (by simp; omega)
      obtain ⟨h1, F, h2, h3⟩ := hP6
      exact ⟨h1, F, h2, fun c hc => by have := h3 c hc; have := hk02.size; omega⟩
    · exact ((hk02.tr hk4).trB hk5 (by omega)).trB hk6 (by omega)
  · rintro v w4 ⟨e, hX, rfl, hk4⟩
    intro ac ha
    have hp4 := hk4.blk hp2 (by simp)
    have hf4 := hk4.blk hf2 (by simp)
    refine ⟨fun h => (by cases h), .func 30, _, 30, [Value.pointer (some ⟨b5, 0, none⟩)].toArray, rfl, rfl, ?_⟩
    refine CallsD.mono' (caught hf4 e) ?_
    rintro en u' w5 ⟨rfl, rfl, hf5, hk5⟩
    have hp5 := hk5.blk hp4 (by simp; omega)
    refine ⟨.tuple #[.agg pz.toArray, .agg #[.int .i64 e.1, .int .i64 e.2]], ?_, .inl ⟨_, rfl, ⟨.agg pz.toArray, ?_, ?_⟩, ?_⟩⟩
    · have i4 := ha.has 4 _ rfl
      have i5 := ha.has 5 _ rfl
      have l4 := blk_loadVar (t := 38) hT hp5 rfl
      have l5 := blk_loadVar (t := 25) hT hf5 rfl
      show (results Tryd.f20 ac.tmps).run _ _ = _
      simp only [results, show Tryd.f20.results = #[.cell 4 38, .cell 5 25] from rfl]
      simp [i4, i5, asAddr, l4, l5]
    · rw [hX]
      rfl
    · rw [hX]
      exact ⟨capV_nil, fun _ => False, progV_nil, fun c hc => hc.elim⟩
    · exact (hk02.tr hk4).trB hk5 (by omega)

theorem scan_ct {l : List UInt8} (h : (faultOf l).1 = 0) : Ct (toksOf l) ∧ l.length ≤ 6000 ∧ (toksOf l).length ≤ 6000 := by
  obtain ⟨h1, h2, h3, _⟩ := scan_good h
  refine ⟨⟨by omega, ?_⟩, h1, by omega⟩
  rcases fault_cases l h1 with ⟨e, h4, _⟩ | ⟨ts, h4, _, h5⟩
  · rw [h4] at h; cases h
  · rw [h5]
    exact (toks_fine _ _ _ _ h4).1
theorem readP_size {ts : List Tok} {fin : Nat} {vs : List VarT} {body : List ST} (h : readP ts fin = .ok (vs, body)) : szSs body ≤ 3 * ts.length := by
  unfold readP at h
  obtain ⟨⟨vs', i⟩, ha, h⟩ := bnd_ok h
  obtain ⟨⟨b', j⟩, hb, h⟩ := bnd_ok h
  injection h with h
  injection h with h1 h2
  subst h1 h2
  have hi := (untilP_ok (fun i r hr => letP_ok hr) _ _ _ (Nat.zero_le _) ha).2.1
  have hj := (untilP_ok (fun i r hr => stmtP_ok vs' 13 i r hr) _ _ _ hi hb).2.1
  have hs := untilP_size (stmtP_size vs' 13) _ _ _ hb
  dsimp only at hi hj hs
  omega

theorem parse_ret (l : List UInt8) (hl : l.length ≤ 100000) {w : World} (hw : Lw w) : Ret Tryd.prog 10 [.string (str l)] w fun r w' => ParR w w' r (parseOf l) ∧ Keep [] w w' := by
  refine ret_of 39 Tryd.func10 rfl rfl (by simp) ?_
  (repeat (first | refine pl_pure hT rfl rfl rfl ?_ | refine pl_nil ?_ | refine rn_seq ?_ | refine rn_plain ?_ | refine rn_block ?_ | refine rn_inBlock ?_ | refine rn_skip ?_ | refine rn_true rfl ?_ | refine rn_false rfl ?_ | refine rn_exit rfl ?_ | refine pl_not rfl rfl ?_))
  refine pl_op rfl rfl (opTo_allocN _ rfl zero_pr ?_)
  intro w1 b2 hb20 hs1 hk1 hp1
  refine pl_op rfl rfl (opTo_allocN _ rfl zero_fault ?_)
  intro w2 b3 hb30 hs2 hk2 hf2
  have hp2 := hk2.blk hp1 (by simp)
  have hk02 := hk1.tr hk2
  (repeat (first | refine pl_pure hT rfl rfl rfl ?_ | refine pl_nil ?_ | refine rn_seq ?_ | refine rn_plain ?_ | refine rn_block ?_ | refine rn_inBlock ?_ | refine rn_skip ?_ | refine rn_true rfl ?_ | refine rn_false rfl ?_ | refine rn_exit rfl ?_ | refine pl_not rfl rfl ?_))
  refine pl_op rfl rfl (opTo_call (fst := []) (cap := []) rfl rfl rfl rfl (by decide +kernel) ((scan_ret l (by omega) (hw.keep hk02)).mono ?_))
  rintro r w3 ⟨lv, rfl, hown3, hk3⟩
  have hk03 := hk02.tr hk3
  obtain ⟨al, cl, rfl⟩ := hown3.form
  obtain ⟨⟨fa, fb⟩, hfl⟩ : ∃ f, f = faultOf l := ⟨_, rfl⟩
  rw [← hfl]
  (repeat (first | refine pl_pure hT rfl rfl rfl ?_ | refine pl_nil ?_ | refine rn_seq ?_ | refine rn_plain ?_ | refine rn_block ?_ | refine rn_inBlock ?_ | refine rn_skip ?_ | refine rn_true rfl ?_ | refine rn_false rfl ?_ | refine rn_exit rfl ?_ | refine pl_not rfl rfl ?_))
  refine pl_op rfl rfl (opTo_allocN _ rfl zero_fault ?_)
  intro w4 b5 hb50 hs4 hk4 hg4
  (repeat (first | refine pl_pure hT rfl rfl rfl ?_ | refine pl_nil ?_ | refine rn_seq ?_ | refine rn_plain ?_ | refine rn_block ?_ | refine rn_inBlock ?_ | refine rn_skip ?_ | refine rn_true rfl ?_ | refine rn_false rfl ?_ | refine rn_exit rfl ?_ | refine pl_not rfl rfl ?_))
  refine pl_op rfl rfl (opTo_storeN [.int .i64 fa, .int .i64 fb] rfl rfl rfl rfl size_fault hg4 (by simp) (one_fault _ _) ?_)
  intro w5 hs5 hk5 hg5
  rw [splice_whole (by rfl)] at hg5
  have hk35 : Keep [] w3 w5 := hk4.trB hk5 (by omega)
  have hk25 := hk3.tr hk35
  have hp5 := hk25.blk hp2 (by simp)
  have hf5 := hk25.blk hf2 (by simp)
  have hk05 := hk03.tr hk35
  have hb25 : b2 ≠ b5 := by have := hk3.size; omega
  have hb35 : b3 ≠ b5 := by have := hk3.size; omega
  have hb5w : w.heap.size ≤ b5 := by have := hk03.size; omega
  (repeat (first | refine pl_pure hT rfl rfl rfl ?_ | refine pl_nil ?_ | refine rn_seq ?_ | refine rn_plain ?_ | refine rn_block ?_ | refine rn_inBlock ?_ | refine rn_skip ?_ | refine rn_true rfl ?_ | refine rn_false rfl ?_ | refine rn_exit rfl ?_ | refine pl_not rfl rfl ?_))
  refine pl_val _ rfl rfl (val_load1 hT rfl rfl rfl (hg5.cell rfl)) ?_
  by_cases hz : fa = 0
  · have h0 : (faultOf l).1 = 0 := by rw [← hfl]; exact hz
    obtain ⟨hct, hl6, htl⟩ := scan_ct h0
    have hown5 := hown3.keep hk35 (by simp)
    have hP0 : parseOf l = bnd (readP (toksOf l) l.length) fun (vs, b) => if progFault vs b ≠ 0 then .error (progFault vs b, -1) else .ok (vs, b) := by
      unfold parseOf
      rw [if_neg (by rw [h0]; decide)]
      rfl
    refine pl_no rfl rfl rfl rfl rfl rfl (by first | (simp only [cmpP]; omega) | (simp [cmpP]; done) | (simp [cmpP]; omega)) ?_
    (repeat (first | refine pl_pure hT rfl rfl rfl ?_ | refine pl_nil ?_ | refine rn_seq ?_ | refine rn_plain ?_ | refine rn_block ?_ | refine rn_inBlock ?_ | refine rn_skip ?_ | refine rn_true rfl ?_ | refine rn_false rfl ?_ | refine rn_exit rfl ?_ | refine pl_not rfl rfl ?_))
    refine pl_val _ rfl rfl (val_len l (by decide +kernel) rfl rfl w5) ?_
    refine pl_op rfl rfl (opTo_call (fst := []) (cap := []) rfl rfl rfl rfl (by decide +kernel) ((read_ret l.length hct (hw.keep hk05) hown5).mono ?_))
    rintro r w6 ⟨⟨x, rfl, hP⟩, hk6⟩
    obtain ⟨X, hX⟩ : ∃ X, X = readP (toksOf l) l.length := ⟨_, rfl⟩
    rw [← hX] at hP hP0 ⊢
    obtain ⟨⟨ga, gb⟩, hgl⟩ : ∃ f, f = fltOf X := ⟨_, rfl⟩
    rw [← hgl]
    obtain ⟨⟨vv, a, n, c, rfl, hnc⟩, _⟩ := hP.1, hP
    obtain ⟨F, hPV, hFb⟩ := hP.2
    have hPV' := hPV
    obtain ⟨vv', bv', he, hv, _⟩ := hPV'
    have hvv : vv = vv' := by
      injection he with he
      have := congrArg Array.toList he
      simp at this
      exact this.1
    subst hvv
    obtain ⟨av, cv, rfl⟩ := hv.form
    have hp6 := hk6.blk hp5 (by simp)
    have hf6 := hk6.blk hf5 (by simp)
    have hg6 := hk6.blk hg5 (by simp)
    have hk06 := hk05.tr hk6
    (repeat (first | refine pl_pure hT rfl rfl rfl ?_ | refine pl_nil ?_ | refine rn_seq ?_ | refine rn_plain ?_ | refine rn_block ?_ | refine rn_inBlock ?_ | refine rn_skip ?_ | refine rn_true rfl ?_ | refine rn_false rfl ?_ | refine rn_exit rfl ?_ | refine pl_not rfl rfl ?_))
    refine pl_op rfl rfl (opTo_allocN _ rfl zero_pr ?_)
    intro w7 b6 hb60 hs7 hk7 hq7
    refine pl_op rfl rfl (opTo_storeN [.slice av (prgOf X).1.length cv, .slice a n c] rfl rfl rfl rfl size_pr hq7 (by simp [pz]) (one_pr _ _ _ _ _ _) ?_)
    intro w8 hs8 hk8 hq8
    rw [splice_whole (by rfl)] at hq8
    have hk68 : Keep [] w6 w8 := hk7.trB hk8 (by omega)
    have hg8 := hk68.blk hg6 (by simp)
    have hb5lt := hg6.lt
    refine pl_op rfl rfl (opTo_storeN [.int .i64 ga, .int .i64 gb] rfl rfl rfl rfl size_fault hg8 (by simp) (one_fault _ _) ?_)
    intro w9 hs9 hk9 hg9
    rw [splice_whole (by rfl)] at hg9
    have hq9 := hk9.blk hq8 (by simp; omega)
    have hp9 := hk9.blk (hk68.blk hp6 (by simp)) (by simp; exact hb25)
    have hf9 := hk9.blk (hk68.blk hf6 (by simp)) (by simp; exact hb35)
    have hk09 : Keep [] w w9 := (hk06.tr hk68).trB hk9 hb5w
    have s56 := hk6.size
    have s25 := hk25.size
    have s02 := hk02.size
    have hst : Stays F w6 [] := fun c hc => ⟨(hFb c hc).2, by simp⟩
    have hst8 : Stays F w8 [b5] := fun c hc => ⟨Nat.lt_of_lt_of_le (hFb c hc).2 hk68.size, by simp; have := (hFb c hc).1; have := hg5.lt; omega⟩
    have hP9 : ProgV F w9 (.agg #[.slice av (prgOf X).1.length cv, .slice a n c]) (prgOf X).1 (prgOf X).2 := (hPV.keep hk68 hst).keep hk9 hst8
    have hin9 : In F w9 := fun c hc => by have := (hFb c hc).2; have := hk68.size; have := hk9.size; omega
    (repeat (first | refine pl_pure hT rfl rfl rfl ?_ | refine pl_nil ?_ | refine rn_seq ?_ | refine rn_plain ?_ | refine rn_block ?_ | refine rn_inBlock ?_ | refine rn_skip ?_ | refine rn_true rfl ?_ | refine rn_false rfl ?_ | refine rn_exit rfl ?_ | refine pl_not rfl rfl ?_))
    refine pl_val _ rfl rfl (val_load1 hT rfl rfl rfl (hg9.cell rfl)) ?_
    cases hXc : X with
    | error e =>
      rw [hXc] at hP0 hgl hP9
      have he1 : e = (ga, gb) := hgl.symm
      have hne : ga ≠ 0 := by
        have hpe : parseOf l = .error e := hP0
        have := parseOf_err hpe
        rw [he1] at this
        exact this
      refine pl_yes rfl rfl rfl rfl rfl (by first | (simp only [cmpP]; omega) | (simp [cmpP]; done) | (simp [cmpP]; omega)) ?_
      (repeat (first | refine pl_pure hT rfl rfl rfl ?_ | refine pl_nil ?_ | refine rn_seq ?_ | refine rn_plain ?_ | refine rn_block ?_ | refine rn_inBlock ?_ | refine rn_skip ?_ | refine rn_true rfl ?_ | refine rn_false rfl ?_ | refine rn_exit rfl ?_ | refine pl_not rfl rfl ?_))
      have hkd : Keep [] w9 w9.drew := (Keep.refl _ _).drew
      refine rn_draw (fun w' => True ∧ Blk w' b5 [.int .i64 ga, .int .i64 gb] 25) [] hMix ?_
      have hS : True ∧ Blk w9.drew b5 [.int .i64 ga, .int .i64 gb] 25 := ⟨trivial, hkd.blk hg9 (by simp)⟩
      refine dr_any 0 _ rfl (by decide +kernel) rfl rfl (fun w => val_build _ rfl rfl built_pr0 w) ?_
      refine dr_val 1 _ rfl (by decide +kernel) rfl rfl (fun w9 hS9 => val_load [.int .i64 ga, .int .i64 gb] hT rfl rfl rfl (hS9.2.range (by rfl))) hS ?_
      refine dr_op 2 rfl (by decide +kernel) rfl rfl (opTo_storeN pz rfl rfl rfl rfl size_pr (hkd.blk hp9 (by simp)) (by simp [pz]) (one_pr _ _ _ _ _ _) ?_)
      intro w10 hs10 hk10 hp10
      rw [splice_whole (by rfl)] at hp10
      refine ⟨fun _ => ⟨trivial, hk10.blk hS.2 (by simp; exact hb25.symm)⟩, ?_⟩
      have hf10 := hk10.blk (hkd.blk hf9 (by simp)) (by simp; omega)
      refine dr_op 3 rfl (by decide +kernel) rfl rfl (opTo_storeN [.int .i64 ga, .int .i64 gb] rfl rfl rfl rfl size_fault hf10 (by simp) (one_fault _ _) ?_)
      intro w11 hs11 hk11 hf11
      rw [splice_whole (by rfl)] at hf11
      have hp11 := hk11.blk hp10 (by simp; omega)
      refine ⟨fun _ => ⟨trivial, (hk11.blk (hk10.blk hS.2 (by simp; exact hb25.symm)) (by simp; exact hb35.symm))⟩, ?_⟩
      refine dr_done (by decide +kernel) ?_
      refine rn_retCC Tryd.func10 rfl rfl rfl (blk_loadVar hT hp11 rfl) (blk_loadVar hT hf11 rfl) ⟨⟨.agg pz.toArray, fun _ => False, ?_, ?_, capV_nil, fun c hc => hc.elim⟩, ((hk09.tr hkd).trB hk10 (by omega)).trB hk11 (by omega)⟩
      · rw [hP0, he1]
        rfl
      · rw [hP0]
        exact progV_nil
    | ok q =>
      obtain ⟨vs, body⟩ := q
      rw [hXc] at hP0 hgl hP9 hq9
      injection hgl with hga hgb
      subst hga hgb
      have hP1 : parseOf l = if progFault vs body ≠ 0 then .error (progFault vs body, -1) else .ok (vs, body) := hP0
      have hsz : szSs body ≤ 100000 := by
        have := readP_size (hX.symm.trans hXc)
        omega
      refine pl_no rfl rfl rfl rfl rfl rfl (by first | (simp only [cmpP]; omega) | (simp [cmpP]; done) | (simp [cmpP]; omega)) ?_
      (repeat (first | refine pl_pure hT rfl rfl rfl ?_ | refine pl_nil ?_ | refine rn_seq ?_ | refine rn_plain ?_ | refine rn_block ?_ | refine rn_inBlock ?_ | refine rn_skip ?_ | refine rn_true rfl ?_ | refine rn_false rfl ?_ | refine rn_exit rfl ?_ | refine pl_not rfl rfl ?_))
      refine pl_val _ rfl rfl (val_load [.slice av vs.length cv, .slice a n c] hT rfl rfl rfl (hq9.range (by rfl))) ?_
      have hP9' : ProgV F w9 (.agg #[.slice av vs.length cv, .slice a n c]) vs body := hP9
      refine pl_op rfl rfl (opTo_call (fst := []) (cap := []) rfl rfl rfl rfl (by decide +kernel) ((check_ret hP9' hin9 hsz).mono ?_))
      rintro r w10 ⟨rfl, hk10⟩
      obtain ⟨cd, hcd⟩ : ∃ cd, cd = progFault vs body := ⟨_, rfl⟩
      rw [← hcd] at hP1 ⊢
      have hp10 := hk10.blk hp9 (by simp)
      have hf10 := hk10.blk hf9 (by simp)
      have hq10 := hk10.blk hq9 (by simp)
      have hk010 := hk09.tr hk10
      (repeat (first | refine pl_pure hT rfl rfl rfl ?_ | refine pl_nil ?_ | refine rn_seq ?_ | refine rn_plain ?_ | refine rn_block ?_ | refine rn_inBlock ?_ | refine rn_skip ?_ | refine rn_true rfl ?_ | refine rn_false rfl ?_ | refine rn_exit rfl ?_ | refine pl_not rfl rfl ?_))
      by_cases hc0 : cd = 0
      · rw [if_neg (by simp [hc0])] at hP1
        refine pl_no rfl rfl rfl rfl rfl rfl (by first | (simp only [cmpP]; omega) | (simp [cmpP]; done) | (simp [cmpP]; omega)) ?_
        (repeat (first | refine pl_pure hT rfl rfl rfl ?_ | refine pl_nil ?_ | refine rn_seq ?_ | refine rn_plain ?_ | refine rn_block ?_ | refine rn_inBlock ?_ | refine rn_skip ?_ | refine rn_true rfl ?_ | refine rn_false rfl ?_ | refine rn_exit rfl ?_ | refine pl_not rfl rfl ?_))
        refine pl_val _ rfl rfl (val_load [.slice av vs.length cv, .slice a n c] hT rfl rfl rfl (hq10.range (by rfl))) ?_
        refine pl_val _ rfl rfl (val_build _ rfl rfl built_fault0 w10) ?_
        refine pl_op rfl rfl (opTo_storeN [.slice av vs.length cv, .slice a n c] rfl rfl rfl rfl size_pr hp10 (by simp [pz]) (one_pr _ _ _ _ _ _) ?_)
        intro w11 hs11 hk11 hp11
        rw [splice_whole (by rfl)] at hp11
        have hf11 := hk11.blk hf10 (by simp; omega)
        refine pl_op rfl rfl (opTo_storeN [.int .i64 0, .int .i64 0] rfl rfl rfl rfl size_fault hf11 (by simp) (one_fault _ _) ?_)
        intro w12 hs12 hk12 hf12
        rw [splice_whole (by rfl)] at hf12
        have hp12 := hk12.blk hp11 (by simp; omega)
        (repeat (first | refine pl_pure hT rfl rfl rfl ?_ | refine pl_nil ?_ | refine rn_seq ?_ | refine rn_plain ?_ | refine rn_block ?_ | refine rn_inBlock ?_ | refine rn_skip ?_ | refine rn_true rfl ?_ | refine rn_false rfl ?_ | refine rn_exit rfl ?_ | refine pl_not rfl rfl ?_))
        have hFlt : ∀ c, F c → w5.heap.size ≤ c := fun c hc => (hFb c hc).1
        have hb23 : b2 < w5.heap.size ∧ b3 < w5.heap.size := ⟨hp5.lt, hf5.lt⟩
        have hst10 : Stays F w9 [] := fun c hc => ⟨hin9 c hc, by simp⟩
        have hin10 : In F w10 := hin9.keep hk10
        have hst11 : Stays F w10 [b2] := fun c hc => ⟨hin10 c hc, by simp; have := hFlt c hc; omega⟩
        have hin11 : In F w11 := hin10.keep hk11
        have hst12 : Stays F w11 [b3] := fun c hc => ⟨hin11 c hc, by simp; have := hFlt c hc; omega⟩
        have hin12 : In F w12 := hin11.keep hk12
        have hP12 : ProgV F w12 (.agg #[.slice av vs.length cv, .slice a n c]) vs body := ((hP9'.keep hk10 hst10).keep hk11 hst11).keep hk12 hst12
        refine rn_retCC Tryd.func10 rfl rfl rfl (blk_loadVar hT hp12 rfl) (blk_loadVar hT hf12 rfl) ⟨⟨.agg #[.slice av vs.length cv, .slice a n c], F, ?_, ?_, ⟨_, a, n, c, rfl, hnc⟩, fun c hc => ?_⟩, (hk010.trB hk11 (by omega)).trB hk12 (by omega)⟩
        · rw [hP1]
          rfl
        · rw [hP1]
          exact hP12
        · have := hFlt c hc
          have := hin12 c hc
          have := hk05.size
          omega
      · rw [if_pos hc0] at hP1
        refine pl_yes rfl rfl rfl rfl rfl (by first | (simp only [cmpP]; omega) | (simp [cmpP]; done) | (simp [cmpP]; omega)) ?_
        (repeat (first | refine pl_pure hT rfl rfl rfl ?_ | refine pl_nil ?_ | refine rn_seq ?_ | refine rn_plain ?_ | refine rn_block ?_ | refine rn_inBlock ?_ | refine rn_skip ?_ | refine rn_true rfl ?_ | refine rn_false rfl ?_ | refine rn_exit rfl ?_ | refine pl_not rfl rfl ?_))
        refine pl_val _ rfl rfl (val_build _ rfl rfl built_pr0 w10) ?_
        (repeat (first | refine pl_pure hT rfl rfl rfl ?_ | refine pl_nil ?_ | refine rn_seq ?_ | refine rn_plain ?_ | refine rn_block ?_ | refine rn_inBlock ?_ | refine rn_skip ?_ | refine rn_true rfl ?_ | refine rn_false rfl ?_ | refine rn_exit rfl ?_ | refine pl_not rfl rfl ?_))
        refine pl_val _ rfl rfl (val_build _ rfl rfl (built_fault cd (-1)) w10) ?_
        refine pl_op rfl rfl (opTo_storeN pz rfl rfl rfl rfl size_pr hp10 (by simp [pz]) (one_pr _ _ _ _ _ _) ?_)
        intro w11 hs11 hk11 hp11
        rw [splice_whole (by rfl)] at hp11
        have hf11 := hk11.blk hf10 (by simp; omega)
        refine pl_op rfl rfl (opTo_storeN [.int .i64 cd, .int .i64 (-1)] rfl rfl rfl rfl size_fault hf11 (by simp) (one_fault _ _) ?_)
        intro w12 hs12 hk12 hf12
        rw [splice_whole (by rfl)] at hf12
        have hp12 := hk12.blk hp11 (by simp; omega)
        (repeat (first | refine pl_pure hT rfl rfl rfl ?_ | refine pl_nil ?_ | refine rn_seq ?_ | refine rn_plain ?_ | refine rn_block ?_ | refine rn_inBlock ?_ | refine rn_skip ?_ | refine rn_true rfl ?_ | refine rn_false rfl ?_ | refine rn_exit rfl ?_ | refine pl_not rfl rfl ?_))
        refine rn_retCC Tryd.func10 rfl rfl rfl (blk_loadVar hT hp12 rfl) (blk_loadVar hT hf12 rfl) ⟨⟨.agg pz.toArray, fun _ => False, ?_, ?_, capV_nil, fun c hc => hc.elim⟩, (hk010.trB hk11 (by omega)).trB hk12 (by omega)⟩
        · rw [hP1]
          rfl
        · rw [hP1]
          exact progV_nil
  · have hP0 : parseOf l = .error (fa, fb) := by
      unfold parseOf
      rw [if_pos (by rw [← hfl]; exact hz), hfl]
    refine pl_yes rfl rfl rfl rfl rfl (by first | (simp only [cmpP]; omega) | (simp [cmpP]; done) | (simp [cmpP]; omega)) ?_
    (repeat (first | refine pl_pure hT rfl rfl rfl ?_ | refine pl_nil ?_ | refine rn_seq ?_ | refine rn_plain ?_ | refine rn_block ?_ | refine rn_inBlock ?_ | refine rn_skip ?_ | refine rn_true rfl ?_ | refine rn_false rfl ?_ | refine rn_exit rfl ?_ | refine pl_not rfl rfl ?_))
    have hkd : Keep [] w5 w5.drew := (Keep.refl _ _).drew
    refine rn_draw (fun w' => True ∧ Blk w' b5 [.int .i64 fa, .int .i64 fb] 25) [] hMix ?_
    have hS : True ∧ Blk w5.drew b5 [.int .i64 fa, .int .i64 fb] 25 := ⟨trivial, hkd.blk hg5 (by simp)⟩
    refine dr_any 0 _ rfl (by decide +kernel) rfl rfl (fun w => val_build _ rfl rfl built_pr0 w) ?_
    refine dr_val 1 _ rfl (by decide +kernel) rfl rfl (fun w9 hS9 => val_load [.int .i64 fa, .int .i64 fb] hT rfl rfl rfl (hS9.2.range (by rfl))) hS ?_
    refine dr_op 2 rfl (by decide +kernel) rfl rfl (opTo_storeN pz rfl rfl rfl rfl size_pr (hkd.blk hp5 (by simp)) (by simp [pz]) (one_pr _ _ _ _ _ _) ?_)
    intro w10 hs10 hk10 hp10
    rw [splice_whole (by rfl)] at hp10
    refine ⟨fun _ => ⟨trivial, hk10.blk hS.2 (by simp; exact hb25.symm)⟩, ?_⟩
    have hf10 := hk10.blk (hkd.blk hf5 (by simp)) (by simp; omega)
    refine dr_op 3 rfl (by decide +kernel) rfl rfl (opTo_storeN [.int .i64 fa, .int .i64 fb] rfl rfl rfl rfl size_fault hf10 (by simp) (one_fault _ _) ?_)
    intro w11 hs11 hk11 hf11
    rw [splice_whole (by rfl)] at hf11
    have hp11 := hk11.blk hp10 (by simp; omega)
    refine ⟨fun _ => ⟨trivial, (hk11.blk (hk10.blk hS.2 (by simp; exact hb25.symm)) (by simp; exact hb35.symm))⟩, ?_⟩
    refine dr_done (by decide +kernel) ?_
    refine rn_retCC Tryd.func10 rfl rfl rfl (blk_loadVar hT hp11 rfl) (blk_loadVar hT hf11 rfl) ⟨⟨.agg pz.toArray, fun _ => False, ?_, ?_, capV_nil, fun c hc => hc.elim⟩, ((hk05.tr hkd).trB hk10 (by omega)).trB hk11 (by omega)⟩
    · rw [hP0]
      rfl
    · rw [hP0]
      exact progV_nil

theorem pkC : PkC where
  parse l hl _ hw := parse_ret l hl hw
  word k _ hw := (pWord_ret k hw).mono fun _ _ ⟨h1, h2⟩ => ⟨h1, h2 ▸ Keep.refl _ _⟩
  verb k _ hw := (pVerb_ret k hw).mono fun _ _ ⟨h1, h2⟩ => ⟨h1, h2 ▸ Keep.refl _ _⟩
end E
end Go.Proofs.YthbkcadiejfgaacDoor
