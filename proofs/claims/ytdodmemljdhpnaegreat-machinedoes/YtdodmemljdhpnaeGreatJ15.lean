/- Several texts in one: MnG, CkA, CkB, CkC, LiftC, LiftI. -/
import Derived.Test.YtdodmemljdhpnaeGreatJ14
import Derived.Test.YtdodmemljdhpnaeGreatJ07
import Derived.Test.YtdodmemljdhpnaeGreatJ03
/- The landed machine: result, Result; all that is to be shown of package machine. -/
namespace Go.Proofs.YtdodmemljdhpnaeGreat
set_option maxRecDepth 20000
set_option maxHeartbeats 4000000
namespace E
open Go.Proofs

abbrev tRs : Nat := 49
theorem built_rs (c : Int) (a : Option Addr) (n k : Nat) : Tryz.prog.built tRs [(0, .int .i64 c), (1, .slice a n k)] = some (resC c (.slice a n k) (.slice none 0 0)).toArray := by kernel_rfl
theorem pbuilt0 : Tryz.prog.built tPr [] = some pz0.toArray := by kernel_rfl
section
variable {R : Nat → Prop} {B : Nat} {w w' : World} {x : Nat} {fp : List Nat} {M : Mx}

theorem Vx.prn {O : Mo} {E : List Int → Prop} (h : Vx R B w x fp O E) : ∃ fq, PVm R B w O.q fq O.pr := by
  obtain ⟨d, s, S, W, D, wv, cv, iv, pv, rfl, h, _⟩ := h
  exact ⟨_, pv, rfl, h.pr⟩
theorem mresult0_ret (h : Vm R B w x fp M) (hp : M.pr.2 = false) (hst : M.md.state ≤ 1000) : Ret Tryz.prog 40 [.pointer (some ⟨x, 0, none⟩)] w fun r w' => r = .int .i64 (codeB M.md M.pr) ∧ Keep [] w w' := by
  have hp' : M.o.pr.2 = false := hp
  refine ret_of 21 Tryz.func40 rfl rfl (by simp) ?_
  unfold codeB
  rw [if_neg (by rw [hp]; decide)]
  refine au ?_
  refine pl_val _ rfl rfl (val_load1 hT rfl rfl rfl (h.ptr)) ?_
  refine pl_op rfl rfl (opTo_call (fst := []) (cap := []) rfl rfl rfl rfl (by decide +kernel) ((h.load 4 (M.md.state : Nat) fun W hl e => loadW_at e.state (by decide)).mono ?_))
  rintro r w0 ⟨rfl, hww⟩
  rw [hww]
  refine au ?_
  by_cases h0 : M.md.state = 0
  · rw [if_pos h0]
    refine ye ?_
    refine au ?_
    exact rn_ret Tryz.func40 (.inl ⟨_, rfl, rfl⟩) ⟨rfl, Keep.refl _ _⟩
  · rw [if_neg h0]
    refine nay ?_
    refine au ?_
    by_cases h1 : M.md.state = 1
    · rw [if_neg (by omega)]
      refine ye ?_
      refine au ?_
      refine pl_val _ rfl rfl (val_load1 hT rfl rfl rfl (h.prt)) ?_
      obtain ⟨fq, hP⟩ := h.prn
      refine pl_op rfl rfl (opTo_call (fst := []) (cap := []) rfl rfl rfl rfl (by decide +kernel) ((pcode_ret hP).mono ?_))
      rintro r w1 ⟨rfl, hww⟩
      rw [hww, hp']
      refine au ?_
      exact rn_ret Tryz.func40 (.inl ⟨_, rfl, rfl⟩) ⟨rfl, Keep.refl _ _⟩
    · rw [if_pos (by omega)]
      refine nay ?_
      refine au ?_
      refine pl_num (((M.md.state : Int) + -2)) rfl rfl rfl rfl rfl (by simp only [ariP]; omega) ?_
      refine au ?_
      exact rn_ret Tryz.func40 (.inl ⟨_, rfl, rfl⟩) ⟨by rw [Int.sub_eq_add_neg], Keep.refl _ _⟩

theorem mresult_ret {n : Nat} (h : Vm R B w x fp M) (hp : M.pr.2 = false) (hst : M.md.state ≤ 1000) (hpl : M.pr.1.length ≤ 100000) (hc : M.md.cells.length ≤ 48) (hn : n ≤ M.md.cells.length) :
    Ret Tryz.prog 19 [.pointer (some ⟨x, 0, none⟩), .int .i64 (n : Nat)] w fun r w' => (∃ ov cv, r = .agg (resC (codeB M.md M.pr) ov cv).toArray ∧ LsV w' ov M.pr.1 ∧ LsV w' cv (M.md.cells.take n)) ∧ Keep [] w w' := by
  obtain ⟨cd, hcd⟩ : ∃ cd, cd = codeB M.md M.pr := ⟨_, rfl⟩
  rw [← hcd]
  refine ret_of 30 Tryz.func19 rfl rfl (by simp) ?_
  refine auj ?_
  refine rn_seq ?_
  refine rn_plain ?_
  refine pl_op rfl rfl (opTo_allocN _ rfl zero_re ?_)
  intro w1 x4 hx4 hs1 hk1 hb1
  refine auj ?_
  refine rn_seq ?_
  have h1 := Vx.keep0 h hk1
  refine rn_with (fun σ' w' => ∃ g ov, Blk w' g (resC cd ov (.slice none 0 0)) tRs ∧ w1.heap.size ≤ g ∧ RowL w' w1.heap.size ov M.pr.1 ∧ Keep [] w1 w' ∧ Sub [(0, .pointer (some ⟨x, 0, none⟩)), (1, .int .i64 (n : Nat)), (4, .pointer (some ⟨x4, 0, none⟩)), (5, .pointer (some ⟨g, 0, none⟩))] σ') ?_ ?_
  rotate_left
  · intro fin1
    refine rn_draw (fun w' => Keep [] w1 w') [9] hMix ?_
    have hS : Keep [] w1 w1.drew := (Keep.refl _ _).drew
    generalize w1.drew = w2 at *
    refine dr_with 1 511 (fun σ' w' => ∃ g ov, Blk w' g (resC 0 (.slice none 0 0) (.slice none 0 0)) tRs ∧ w1.heap.size ≤ g ∧ (∃ a k, ov = .slice a M.pr.1.length k) ∧ RowL w' w1.heap.size ov M.pr.1 ∧ Keep [] w1 w' ∧ Sub [(0, .pointer (some ⟨x, 0, none⟩)), (1, .int .i64 (n : Nat)), (4, .pointer (some ⟨x4, 0, none⟩)), (5, .pointer (some ⟨g, 0, none⟩)), (14, .agg (resC cd ov (.slice none 0 0)).toArray)] σ') ?_ ?_
    · rintro σ' w3 ⟨g, ov, hg, hgw, ⟨oa, ok, rfl⟩, hov, hS3, hsub⟩
      refine dr_sub hsub ?_
      refine dr_op 9 rfl (by decide +kernel) rfl rfl (opTo_storeN (resC cd (.slice oa M.pr.1.length ok) (.slice none 0 0)) rfl rfl rfl rfl size_re hg (by simp [resC]) (resC_one _ _ _ _ _ _ _) ?_)
      intro w4 hs4 hk4 hb4
      rw [splice_whole (by rfl)] at hb4
      refine ⟨fun h => absurd (by simp) h, ?_⟩
      refine dr_done (by decide +kernel) ?_
      exact fin1 _ _ ⟨g, _, hb4, hgw, hov.keep hk4 (hov.ne hg (by decide)), hS3.trB hk4 hgw, rfl, rfl, rfl, rfl, trivial⟩
    intro fin2
    refine tk 0 ?_
    refine tk 2 ?_
    refine tk 3 ?_
    refine tk 4 ?_
    obtain ⟨cv, iv, hbk, _, _, _⟩ := h1.bk
    refine dr_val 5 (.pointer (some ⟨M.q, 0, none⟩)) rfl (by decide +kernel) rfl rfl (fun w9 hS9 => val_load1 hT rfl rfl rfl ((hS9.blk hbk (by simp)).cell rfl)) hS ?_
    have res : ∀ {w3 : World}, Keep [] w1 w3 → Ret Tryz.prog 40 [.pointer (some ⟨x, 0, none⟩)] w3 fun r w' => r = .int .i64 cd ∧ Keep [] w3 w' := fun {w3} hk => by
      rw [hcd]
      exact mresult0_ret (Vx.keep0 h1 hk) hp hst
    have lst : ∀ {w3 : World}, Keep [] w1 w3 → Ret Tryz.prog 21 [.pointer (some ⟨M.q, 0, none⟩)] w3 fun r w' => RowL w' w1.heap.size r M.pr.1 ∧ Keep [] w3 w' := fun {w3} hk => by
      obtain ⟨fq, hP⟩ := (Vx.keep0 h1 hk).prn
      refine (plist_ret hP hpl).mono ?_
      rintro r w' ⟨hr, hk'⟩
      exact ⟨hr.low hk.size, hk'⟩
    refine dr_op2 1 8 rfl rfl (by decide +kernel) rfl rfl rfl rfl ?_ ?_
    · refine opTo_call (fst := []) (cap := []) rfl rfl rfl rfl (by decide +kernel) ((res hS).mono ?_)
      rintro r w3 ⟨rfl, hk3⟩
      have hS3 := hS.tr hk3
      refine ⟨fun _ => hS3, ?_⟩
      refine dr_op2 6 8 rfl rfl (by decide +kernel) rfl rfl rfl rfl ?_ ?_
      · refine opTo_call (fst := []) (cap := []) rfl rfl rfl rfl (by decide +kernel) ((lst hS3).mono ?_)
        rintro r w4 ⟨hr, hk4⟩
        have hS4 := hS3.tr hk4
        obtain ⟨oa, ok, rfl⟩ := hr.form
        refine ⟨fun _ => hS4, ?_⟩
        refine dr_any 7 _ rfl (by decide +kernel) rfl rfl (fun w => val_build _ rfl rfl (built_rs cd oa M.pr.1.length ok) w) ?_
        refine dr_op 8 rfl (by decide +kernel) rfl rfl (opTo_allocN _ rfl zero_re ?_)
        intro w5 g hg hs5 hk5 hb5
        refine ⟨fun _ => hS4.tr hk5, ?_⟩
        exact fin2 _ _ ⟨g, _, hb5, by have := hS4.size; omega, ⟨_, _, rfl⟩, hr.keep hk5 (fun _ _ => by simp), hS4.tr hk5, rfl, rfl, rfl, rfl, rfl, trivial⟩
      · refine opTo_allocN _ rfl zero_re ?_
        intro w4 g hg hs4 hk4 hb4
        have hS4 := hS3.tr hk4
        refine ⟨fun _ => hS4, ?_⟩
        refine dr_op 6 rfl (by decide +kernel) rfl rfl (opTo_call (fst := []) (cap := []) rfl rfl rfl rfl (by decide +kernel) ((lst hS4).mono ?_))
        rintro r w5 ⟨hr, hk5⟩
        obtain ⟨oa, ok, rfl⟩ := hr.form
        refine ⟨fun _ => hS4.tr hk5, ?_⟩
        refine dr_any 7 _ rfl (by decide +kernel) rfl rfl (fun w => val_build _ rfl rfl (built_rs cd oa M.pr.1.length ok) w) ?_
        exact fin2 _ _ ⟨g, _, hk5.blk hb4 (by simp), by have := hS3.size; omega, ⟨_, _, rfl⟩, hr, hS4.tr hk5, rfl, rfl, rfl, rfl, rfl, trivial⟩
    · refine opTo_allocN _ rfl zero_re ?_
      intro w3 g hg hs3 hk3 hb3
      have hS3 := hS.tr hk3
      refine ⟨fun _ => hS3, ?_⟩
      refine dr_op 1 rfl (by decide +kernel) rfl rfl (opTo_call (fst := []) (cap := []) rfl rfl rfl rfl (by decide +kernel) ((res hS3).mono ?_))
      rintro r w4 ⟨rfl, hk4⟩
      have hS4 := hS3.tr hk4
      refine ⟨fun _ => hS4, ?_⟩
      refine dr_op 6 rfl (by decide +kernel) rfl rfl (opTo_call (fst := []) (cap := []) rfl rfl rfl rfl (by decide +kernel) ((lst hS4).mono ?_))
      rintro r w5 ⟨hr, hk5⟩
      obtain ⟨oa, ok, rfl⟩ := hr.form
      refine ⟨fun _ => hS4.tr hk5, ?_⟩
      refine dr_any 7 _ rfl (by decide +kernel) rfl rfl (fun w => val_build _ rfl rfl (built_rs cd oa M.pr.1.length ok) w) ?_
      exact fin2 _ _ ⟨g, _, hk5.blk (hk4.blk hb3 (by simp)) (by simp), by have := hS.size; omega, ⟨_, _, rfl⟩, hr, hS4.tr hk5, rfl, rfl, rfl, rfl, rfl, trivial⟩
  rintro σ w2 ⟨g, ov, hg, hgw, hov, hk2, hsub⟩
  refine rn_sub hsub ?_
  clear hsub
  refine au ?_
  refine pl_val (.int .i64 (n : Nat)) rfl rfl (mval_min _ rfl rfl rfl (by rw [if_neg (by omega)]) _) ?_
  refine au ?_
  refine rn_ind (fun t σ w' => ∃ (j : Nat) (c2 : Value), j ≤ n ∧ t = n - j ∧ σ = [(0, .pointer (some ⟨x, 0, none⟩)), (4, .pointer (some ⟨x4, 0, none⟩)), (5, .pointer (some ⟨g, 0, none⟩)), (16, .int .i64 (n : Nat)), (17, .int .i64 (j : Nat))] ∧ Keep [] w1 w' ∧ Blk w' g (resC cd ov c2) tRs ∧ RowL w' w1.heap.size ov M.pr.1 ∧ RowL w' w1.heap.size c2 (M.md.cells.take j) ∧ Apt ov c2)
    n _ ?_ ⟨0, .slice none 0 0, Nat.zero_le _, rfl, rfl, hk2, hg, hov, RowL.nil _ _, fun k _ hm => by simp [obs, Value.ownBlock] at hm⟩ ?_
  · exact ⟨rfl, rfl, rfl, rfl, rfl, trivial⟩
  clear hg hov hk2
  rintro t σ w3 ih ⟨j, c2, hj, rfl, rfl, hk3, hg, hov, hc2, hap⟩
  have hjl : (M.md.cells.take j).length = j := by rw [List.length_take]; omega
  obtain ⟨c2a, c2k, hc2v⟩ := hc2.form
  rw [hjl] at hc2v
  subst hc2v
  refine au ?_
  by_cases hlt : j < n
  · refine ye ?_
    refine au ?_
    refine rn_draw (fun w' => Keep [] w3 w') [6, 8] hMix ?_
    have hS : Keep [] w3 w3.drew := (Keep.refl _ _).drew
    generalize w3.drew = w4 at *
    have hja : j < M.md.cells.length := by omega
    refine tk 0 ?_
    refine dr_val 1 (.slice c2a j c2k) rfl (by decide +kernel) rfl rfl (fun w9 hS9 => val_load1 hT rfl rfl rfl ((hS9.blk hg (by simp)).cell rfl)) hS ?_
    refine tk 2 ?_
    refine tk 3 ?_
    refine dr_op 4 rfl (by decide +kernel) rfl rfl (opTo_call (fst := []) (cap := []) rfl rfl rfl rfl (by decide +kernel) ((mcell_at (Vx.keep0 h1 (hk3.tr hS)) hc hja).mono ?_))
    rintro r w4' ⟨rfl, hww⟩
    rw [hww]
    refine ⟨fun _ => hS, ?_⟩
    obtain ⟨v, hv⟩ : ∃ v, v = cellAt M.md.cells ((j : Nat) : Int) := ⟨_, rfl⟩
    rw [← hv]
    refine dr_op 5 rfl (by decide +kernel) rfl rfl (opTo_sliceN tLg [.int .i64 v] rfl rfl (slice_lg v) ?_)
    intro w5 g5 hg5 hs5 hk5 hb5
    refine ⟨fun _ => hS.tr hk5, ?_⟩
    have hc25 : Own w5 w1.heap.size tLg 1 (.slice c2a j c2k) j (lgs (M.md.cells.take j)) := by
      have := hc2.keep (hS.tr hk5) (fun _ _ => by simp)
      unfold RowL at this
      rw [hjl] at this
      exact this
    refine dr_op 6 rfl (by decide +kernel) rfl rfl (opTo_app w1.heap.size tLg 1 8 (lgs (M.md.cells.take j)) [.int .i64 v] rfl rfl rfl app_lg hc25 (hb5.range rfl) rfl (one_v rfl) (by decide) (by unfold maxLen; omega) (by omega) ((hk3.tr hS).tr hk5).size ?_)
    intro g2 cap w6 hown hcase
    refine ⟨fun h => absurd (by simp) h, ?_⟩
    have htk : M.md.cells.take (j + 1) = M.md.cells.take j ++ [v] := by
      rw [List.take_add_one, cellAt_nat hja, hv]
      rfl
    have hrow : RowL w6 w1.heap.size (.slice (some ⟨g2, 0, none⟩) (j + 1) cap) (M.md.cells.take (j + 1)) := by
      have e2 : lgs (M.md.cells.take (j + 1)) = lgs (M.md.cells.take j) ++ [.int .i64 v] := by rw [htk, lgs_app]; rfl
      unfold RowL
      rw [show (M.md.cells.take (j + 1)).length = j + 1 by rw [List.length_take]; omega, e2]
      exact hown
    have hk6 : Keep (obs (.slice c2a j c2k)) w5 w6 := by
      rcases hcase with ⟨h3, _, h4⟩ | ⟨_, h4, _⟩
      · rw [obs, h3]; exact h4
      · exact h4.of0
    have hob : ∀ y ∈ obs (.slice (some ⟨g2, 0, none⟩) (j + 1) cap), y ∈ obs (.slice c2a j c2k) ∨ w5.heap.size ≤ y := fun y hy => by
      have hy : y = g2 := by simpa [obs, Value.ownBlock] using hy
      subst hy
      rcases hcase with ⟨h3, _, _⟩ | ⟨h3, _, _⟩
      · exact .inl (mem_obs.2 h3)
      · exact .inr (by omega)
    have hg5b := (hS.tr hk5).blk hg (by simp)
    have hc25' : RowL w5 w1.heap.size (.slice c2a j c2k) (M.md.cells.take j) := hc2.keep (hS.tr hk5) (fun _ _ => by simp)
    have hg6 := hk6.blk hg5b fun hm => hc25'.ne hg5b (by decide) g hm (by simp)
    have hov5 := hov.keep (hS.tr hk5) (fun _ _ => by simp)
    have hov6 := hov5.keep hk6 fun y hy => hap y hy
    refine tk 7 ?_
    refine dr_op 8 rfl (by decide +kernel) rfl rfl (opTo_storeN [.slice (some ⟨g2, 0, none⟩) (j + 1) cap] rfl rfl rfl rfl size_ls hg6 (by simp [resC]) (one_v rfl) ?_)
    intro w7 hs7 hk7 hb7
    refine ⟨fun h => absurd (by simp) h, ?_⟩
    refine dr_done (by decide +kernel) ?_
    have hk17 : Keep [] w1 w7 := (((hk3.tr hS).tr hk5).trans hk6 fun y hy => .inr (hc25'.lt y hy).1).trB hk7 hgw
    refine au ?_
    refine pl_num (((j + 1 : Nat) : Int)) rfl rfl rfl rfl rfl (by simp only [ariP]; omega) ?_
    refine au ?_
    refine rn_sub ?_ (ih (n - (j + 1)) [(0, .pointer (some ⟨x, 0, none⟩)), (4, .pointer (some ⟨x4, 0, none⟩)), (5, .pointer (some ⟨g, 0, none⟩)), (16, .int .i64 (n : Nat)), (17, .int .i64 ((j + 1 : Nat) : Int))] w7 (by omega) ⟨j + 1, _, by omega, rfl, rfl, hk17, hb7, hov6.keep hk7 (hov6.ne hg6 (by decide)), hrow.keep hk7 (hrow.ne hg6 (by decide)), fun y hy hm => ?_⟩)
    · exact ⟨rfl, rfl, rfl, rfl, rfl, trivial⟩
    · rcases hob y hm with h3 | h3
      · exact hap y hy h3
      · have := (hov5.lt y hy).2
        omega
  · have hjn : j = n := by omega
    subst hjn
    refine nay ?_
    refine au ?_
    obtain ⟨oa, ok, hov'⟩ := hov.form
    subst hov'
    refine pl_val (.agg (resC cd (.slice oa M.pr.1.length ok) (.slice c2a j c2k)).toArray) rfl rfl (val_load (resC cd (.slice oa M.pr.1.length ok) (.slice c2a j c2k)) hT rfl rfl rfl (hg.range (by rfl))) ?_
    have hb3 := hk3.blk hb1 (by simp)
    refine pl_op rfl rfl (opTo_storeN (resC cd (.slice oa M.pr.1.length ok) (.slice c2a j c2k)) rfl rfl rfl rfl size_re hb3 (by simp [resC]) (resC_one _ _ _ _ _ _ _) ?_)
    intro w4 hs4 hk4 hb4
    rw [splice_whole (by rfl)] at hb4
    refine au ?_
    exact rn_ret Tryz.func19 (.inr (.inr (.inl ⟨_, _, _, rfl, rfl, blk_loadVar hT hb4 rfl⟩))) ⟨⟨_, _, rfl, (hov.keep hk4 (hov.ne hb3 (by decide))).lies, (hc2.keep hk4 (hc2.ne hb3 (by decide))).lies⟩, (hk1.tr hk3).trB hk4 (by omega)⟩
end

/-- What is to be shown of package machine. -/
theorem maI : MaI Vm PVm TVm pz0 0 where
  vlt := fun h => Vx.lt h
  vin := fun h => Vx.in h
  vkeep := fun h hk hn => Vx.keep h hk hn
  vmem := fun h => Vx.ptr h
  vopen := fun h => by
    obtain ⟨d, s, S, W, D, wv, cv, iv, pv, rfl, h, e⟩ := h
    refine ⟨d, s, S, W, D, wv, _, h.st, h.hs, e, h.gen, ⟨pv, rfl, h.pr⟩, fun k hk => ?_⟩
    rcases hk with hk | hk
    · simp only [fpM, List.mem_cons] at hk
      rcases hk with hk | hk | hk
      · exact mem_fpV.2 (.inr (.inl hk))
      · exact mem_fpV.2 (.inr (.inr (.inl hk)))
      · exact mem_fpV.2 (.inr (.inr (.inr (.inl hk))))
    · exact mem_fpV.2 (.inr (.inr (.inr (.inr (.inl hk)))))
  plt := fun h => pv_lt h
  pkeep := fun h hk hn => pv_keep h hk hn
  pbuilt := pbuilt0
  pnew := fun h hB hR hro => pv_new h hB hR hro
  new := fun hst hs hnr he hp hc hi hro hil => mnew_m hst hs hnr he hp hc hi hro (by omega)
  step := fun h ho hi hs hl => mstep_ret h ho.toWo hi hs hl
  offs := fun h hs => mstep_off h hs
  result := fun {R B w x n fp M c i Q} h ho hi hn => by
    have := ho.fit.cells
    have := ho.c48
    have := ho.out
    have := ho.state
    exact mresult_ret h ho.calm.1 (by omega) (by omega) (by omega) (by omega)
  commits := fun h ho _ => mcommits_ret h ho.toWo
  torn := fun h => mtorn_ret h
  put := fun h hl k n => pput_ret h hl k n
  list := fun h hl => (plist_ret h hl).mono fun r w' hr => ⟨hr.1.lies, hr.2⟩
  code := fun h => (pcode_ret h).mono fun r w' hr => ⟨hr.1, by rw [hr.2]; exact Keep.refl _ _⟩
end E
end Go.Proofs.YtdodmemljdhpnaeGreat

/- The landed maker: how it lies in memory; contracts of next, add, lead, cell, size. -/
namespace Go.Proofs.YtdodmemljdhpnaeGreat
set_option maxRecDepth 20000
set_option maxHeartbeats 4000000
namespace E
open Go.Proofs

abbrev tMk : Nat := 68
abbrev tIn : Nat := 72
theorem neMI : tMk ≠ tIn := by decide

/-- What making leaves alone: all blocks but those of instructions and of makers. -/
structure Mf (w w' : World) : Prop where
  size : w.heap.size ≤ w'.heap.size
  blk : ∀ {c : Nat} {L : List Value} {e : TypeId}, Blk w c L e → e ≠ tMk → e ≠ tIn → Blk w' c L e
theorem Mf.refl (w : World) : Mf w w := ⟨Nat.le_refl _, fun h _ _ => h⟩
theorem Mf.tr {w w' w'' : World} (h : Mf w w') (h' : Mf w' w'') : Mf w w'' := ⟨Nat.le_trans h.size h'.size, fun hb h1 h2 => h'.blk (h.blk hb h1 h2) h1 h2⟩
theorem Mf.of0 {w w' : World} (h : Keep [] w w') : Mf w w' := ⟨h.size, fun hb _ _ => h.blk hb (by simp)⟩
theorem Mf.of {w w' : World} {fp : List Nat} (h : Keep fp w w') (hf : ∀ k ∈ fp, ∃ L e, Blk w k L e ∧ (e = tMk ∨ e = tIn)) : Mf w w' :=
  ⟨h.size, fun hb h1 h2 => h.blk hb fun hm => by
    obtain ⟨L, e, hb', he⟩ := hf _ hm
    rcases he with he | he
    · exact Blk.ne hb hb' (fun h => h1 (h.trans he)) rfl
    · exact Blk.ne hb hb' (fun h => h2 (h.trans he)) rfl⟩

/-- The maker at b, over a world w0 in which it was not yet: the instructions l so far; its program. -/
structure Mk (w0 w : World) (b : Nat) (v : Value) (l : List Is) (vv bv : Value) : Prop where
  kp : Keep [] w0 w
  ge : w0.heap.size ≤ b
  bk : Blk w b [v, vv, bv] tMk
  row : RowI tIn w w0.heap.size v l
def Mt (w0 w : World) (b : Nat) (l : List Is) (vv bv : Value) : Prop := ∃ v, Mk w0 w b v l vv bv

section
variable {w0 w w1 w2 : World} {b B : Nat} {v v' vv bv : Value} {l l' : List Is}
theorem mrow_blk (h : RowI tIn w B v l) : ∀ k ∈ v.ownBlock.toList, ∃ X, Blk w k X tIn := by
  intro k hk
  rcases h.2 with ⟨rfl, _⟩ | ⟨g, cap, cur, rfl, _, hg, _⟩
  · simp [Value.ownBlock] at hk
  · have : k = g := by simpa [Value.ownBlock] using hk
    subst this
    exact ⟨cur, hg⟩
theorem mrow_ne (h : RowI tIn w B v l) {X : List Value} (hb : Blk w b X tMk) : ∀ k ∈ v.ownBlock.toList, k ≠ b := by
  intro k hk
  obtain ⟨Y, hY⟩ := mrow_blk h k hk
  exact (Blk.ne hb hY neMI).symm
theorem Mk.keep0 (h : Mk w0 w b v l vv bv) (hk : Keep [] w w1) : Mk w0 w1 b v l vv bv := ⟨h.kp.tr hk, h.ge, hk.blk h.bk (by simp), h.row.keep0 hk⟩
theorem Mt.keep0 (h : Mt w0 w b l vv bv) (hk : Keep [] w w1) : Mt w0 w1 b l vv bv := let ⟨v, h⟩ := h; ⟨v, h.keep0 hk⟩
theorem Mt.kp (h : Mt w0 w b l vv bv) : Keep [] w0 w := let ⟨_, h⟩ := h; h.kp
theorem Mk.bkA (h : Mk w0 w b v l vv bv) (hk : Keep v.ownBlock.toList w w1) : Blk w1 b [v, vv, bv] tMk := hk.blk h.bk fun hm => mrow_ne h.row h.bk b hm rfl
theorem Mk.app (h : Mk w0 w b v l vv bv) (hk : Keep v.ownBlock.toList w w1) (hrow : RowI tIn w1 w0.heap.size v' l') (hk2 : Keep [b] w1 w2) (hb : Blk w2 b [v', vv, bv] tMk) : Mk w0 w2 b v' l' vv bv ∧ Mf w w2 := by
  have hb1 := h.bkA hk
  refine ⟨⟨(h.kp.trans hk fun k hm => .inr (h.row.own k hm).1).trB hk2 h.ge, h.ge, hb, ?_⟩, ?_⟩
  · exact Own.keep hrow hk2 fun k hv hm => mrow_ne hrow hb1 k (by simpa using hv) (List.mem_singleton.1 hm)
  · refine Mf.tr (Mf.of hk fun k hm => ?_) (Mf.of hk2 fun k hm => ⟨[v, vv, bv], tMk, by rw [List.mem_singleton.1 hm]; exact hb1, .inl rfl⟩)
    obtain ⟨X, hX⟩ := mrow_blk h.row k hm
    exact ⟨X, tIn, hX, .inr rfl⟩
end

theorem built_mi03 (a n : Int) : Tryz.prog.built tIn [(0, .int .i64 a), (3, .int .i64 n)] = some (iC (a, 0, 0, n)).toArray := by kernel_rfl
theorem built_mi0 (a : Int) : Tryz.prog.built tIn [(0, .int .i64 a)] = some (iC (a, 0, 0, 0)).toArray := by kernel_rfl
theorem built_mi1 (a b : Int) : Tryz.prog.built tIn [(0, .int .i64 a), (1, .int .i64 b)] = some (iC (a, b, 0, 0)).toArray := by kernel_rfl
theorem built_mi2 (a b c : Int) : Tryz.prog.built tIn [(0, .int .i64 a), (1, .int .i64 b), (2, .int .i64 c)] = some (iC (a, b, c, 0)).toArray := by kernel_rfl
theorem zero_mi : ((Tryz.prog.info? tIn).bind (·.zero)).map (·.cells) = some (iC (0, 0, 0, 0)).toArray := by kernel_rfl
theorem size_mi : sizeOk Tryz.prog tIn 4 = true := by kernel_rfl
theorem size_mn : sizeOk Tryz.prog 3 1 = true := by kernel_rfl
theorem size_ms : sizeOk Tryz.prog 29 1 = true := by kernel_rfl
theorem slice_mi (x : Is) : sliceCells Tryz.prog 29 1 [(0, .agg (iC x).toArray)] = some (tIn, (iC x).toArray) := by
  obtain ⟨a, b, c, d⟩ := x
  kernel_rfl
theorem app_mi : appOk Tryz.prog 29 tIn 4 32 = true := by decide +kernel
theorem iC_mone (x : Is) : ∀ u ∈ iC x, u.oneCell' = true := by
  intro u hu
  simp only [iC, List.mem_cons, List.not_mem_nil, or_false] at hu
  rcases hu with rfl | rfl | rfl | rfl <;> rfl
theorem mone {v : Value} (h : v.oneCell' = true) : ∀ u ∈ [v], u.oneCell' = true := by
  intro u hu
  simp only [List.mem_cons, List.not_mem_nil, or_false] at hu
  subst hu
  exact h
theorem ins_mi {w : World} {b e : Nat} {x : Is} (hb : Blk w b (iC x) e) : InsV (fun c => c = b) w (.slice (some ⟨b, 0, none⟩) 1 1) [x] :=
  ⟨_, 1, rfl, fun _ => ⟨b, 0, rfl, rfl, hb.range (by simp [isC, iC])⟩⟩

theorem splice_in (A R : List Value) (x y z : Value) : splice (A ++ x :: y :: R) (A.length + 1) [z] = A ++ x :: z :: R := by
  have e1 : (A ++ x :: y :: R).take (A.length + 1) = A ++ [x] := by
    rw [List.take_append, List.take_of_length_le (by omega), Nat.add_sub_cancel_left]
    rfl
  have e2 : (A ++ x :: y :: R).drop (A.length + 1 + 1) = R := by
    rw [List.drop_append, List.drop_of_length_le (by omega), show A.length + 1 + 1 - A.length = 2 by omega]
    rfl
  unfold splice
  rw [e1, show A.length + 1 + [z].length = A.length + 1 + 1 from rfl, e2]
  simp
theorem isC_mid (p r : List Is) (x : Is) : isC (p ++ x :: r) = isC p ++ .int .i64 x.1 :: .int .i64 x.2.1 :: .int .i64 x.2.2.1 :: .int .i64 x.2.2.2 :: isC r := by
  simp [isC, iC]
theorem splice_row {cur : List Value} {p r : List Is} {op a c n : Int} (m : Int) (h : cur.take ((p ++ (op, a, c, n) :: r).length * 4) = isC (p ++ (op, a, c, n) :: r)) :
    (splice cur (0 + p.length * 4 + 1) [.int .i64 m]).take ((p ++ (op, a, c, n) :: r).length * 4) = isC (p ++ (op, m, c, n) :: r) := by
  obtain ⟨T, hT⟩ : ∃ T, T = cur.drop ((p ++ (op, a, c, n) :: r).length * 4) := ⟨_, rfl⟩
  have hc : cur = isC (p ++ (op, a, c, n) :: r) ++ T := by rw [hT, ← h, List.take_append_drop]
  have hp : 0 + p.length * 4 + 1 = (isC p).length + 1 := by rw [isC_length]; omega
  have hl : (p ++ (op, a, c, n) :: r).length * 4 = (isC (p ++ (op, m, c, n) :: r)).length := by rw [isC_length]; simp
  have e : splice cur (0 + p.length * 4 + 1) [.int .i64 m] = isC (p ++ (op, m, c, n) :: r) ++ T := by
    rw [hc, hp, isC_mid, isC_mid]
    simp only [List.append_assoc, List.cons_append]
    exact splice_in (isC p) _ _ _ _
  rw [e, hl, List.take_left']
  rfl

/-- What the maker's program is. -/
structure Cx (vs : List VarT) (bd : List ST) (F : Nat → Prop) (w0 : World) (vv bv : Value) : Prop where
  pr : ProgV F w0 (.agg #[vv, bv]) vs bd
  hF : In F w0
  sz : Sized vs

section
variable {w0 w : World} {b : Nat} {v vv bv : Value} {l : List Is}
theorem mnext_ret (h : Mk w0 w b v l vv bv) : Ret Tryz.prog 47 [.pointer (some ⟨b, 0, none⟩)] w fun r w' => r = .int .i64 (l.length : Nat) ∧ w' = w := by
  obtain ⟨a, cap, rfl⟩ := h.row.form
  refine ret_of 8 Tryz.func47 rfl rfl (by simp) ?_
  refine au ?_
  refine pl_val _ rfl rfl (val_load1 hT rfl rfl rfl (h.bk.cell rfl)) ?_
  refine au ?_
  exact rn_ret Tryz.func47 (.inl ⟨_, rfl, rfl⟩) ⟨rfl, rfl⟩

theorem madd_ret (h : Mt w0 w b l vv bv) (x : Is) (hl : l.length ≤ 900000) : Ret Tryz.prog 26 [.pointer (some ⟨b, 0, none⟩), .agg (iC x).toArray] w fun r w' => r = .int .i64 (l.length : Nat) ∧ Mt w0 w' b (l ++ [x]) vv bv ∧ Mf w w' := by
  obtain ⟨v, h⟩ := h
  obtain ⟨a, cap, rfl⟩ := h.row.form
  refine ret_of 19 Tryz.func26 rfl rfl (by simp) ?_
  refine au ?_
  refine pl_op rfl rfl (opTo_boxN (iC x) rfl rfl rfl ?_)
  intro w1 x1 hx1 hs1 hk1 hX1
  have h1 := h.keep0 hk1
  refine au ?_
  refine pl_op rfl rfl (opTo_call (fst := []) (cap := []) rfl rfl rfl rfl (by decide +kernel) ((mnext_ret h1).mono ?_))
  rintro r w1' ⟨rfl, hww⟩
  rw [hww]
  refine au ?_
  refine rn_draw (fun w' => Keep [] w1 w') [7, 10] hMix ?_
  have hS : Keep [] w1 w1.drew := (Keep.refl _ _).drew
  generalize w1.drew = w2 at *
  refine tk 0 ?_
  refine tk 1 ?_
  refine tk 2 ?_
  refine tk 3 ?_
  refine dr_val 4 (.slice a l.length cap) rfl (by decide +kernel) rfl rfl (fun w9 hS9 => val_load1 hT rfl rfl rfl ((hS9.blk h1.bk (by simp)).cell rfl)) hS ?_
  refine dr_val 5 (.agg (iC x).toArray) rfl (by decide +kernel) rfl rfl (fun w9 hS9 => val_load (iC x) hT rfl rfl rfl ((hS9.blk hX1 (by simp)).range (by rfl))) hS ?_
  refine dr_op 6 rfl (by decide +kernel) rfl rfl (opTo_sliceN tIn (iC x) rfl rfl (slice_mi x) ?_)
  intro w3 g hg hs3 hk3 hb3
  refine ⟨fun _ => hS.tr hk3, ?_⟩
  have h3 := h1.keep0 (hS.tr hk3)
  refine dr_op 7 rfl (by decide +kernel) rfl rfl (opTo_rowApp l [x] rfl rfl rfl app_mi h3.row (ins_mi hb3) (by simp; omega) h3.kp.size ?_)
  intro v4 w4 hrow4 hk4
  refine ⟨fun h => absurd (by simp) h, ?_⟩
  obtain ⟨a4, c4, rfl⟩ := hrow4.form
  refine tk 8 ?_
  refine tk 9 ?_
  refine dr_op 10 rfl (by decide +kernel) rfl rfl (opTo_storeN [.slice a4 (l ++ [x]).length c4] rfl rfl rfl rfl size_ms (h3.bkA hk4) (by simp) (mone rfl) ?_)
  intro w5 hs5 hk5 hb5
  refine ⟨fun h => absurd (by simp) h, ?_⟩
  refine dr_done (by decide +kernel) ?_
  obtain ⟨h5, hm5⟩ := h3.app hk4 hrow4 hk5 hb5
  refine au ?_
  exact rn_ret Tryz.func26 (.inl ⟨_, rfl, rfl⟩) ⟨rfl, ⟨_, h5⟩, (Mf.of0 (hk1.tr (hS.tr hk3))).tr hm5⟩

theorem mlead_ret {p r : List Is} {op a c n : Int} (h : Mt w0 w b (p ++ (op, a, c, n) :: r) vv bv) : Ret Tryz.prog 90 [.pointer (some ⟨b, 0, none⟩), .int .i64 (p.length : Nat)] w fun r' w' => r' = .tuple #[] ∧ Mt w0 w' b (p ++ (op, (((p ++ (op, a, c, n) :: r).length : Nat) : Int), c, n) :: r) vv bv ∧ Mf w w' := by
  obtain ⟨v, h⟩ := h
  obtain ⟨L, hL⟩ : ∃ L, L = p ++ (op, a, c, n) :: r := ⟨_, rfl⟩
  have hlen : L.length = p.length + 1 + r.length := by rw [hL]; simp; omega
  rw [← hL] at h
  rcases h.row.2 with ⟨_, h0⟩ | ⟨g, cap, cur, rfl, hB, hb, hc, hl, ht⟩
  · omega
  refine ret_of 13 Tryz.func90 rfl rfl (by simp) ?_
  refine au ?_
  refine rn_draw (fun w' => Keep [] w w') [9] hMix ?_
  have hS : Keep [] w w.drew := (Keep.refl _ _).drew
  generalize w.drew = w2 at *
  refine tk 0 ?_
  refine tk 1 ?_
  refine tk 2 ?_
  refine dr_val 3 (.slice (some ⟨g, 0, none⟩) L.length cap) rfl (by decide +kernel) rfl rfl (fun w9 hS9 => val_load1 hT rfl rfl rfl ((hS9.blk h.bk (by simp)).cell rfl)) hS ?_
  refine tk 4 ?_
  refine tk 5 ?_
  refine dr_op 6 rfl (by decide +kernel) rfl rfl (opTo_call (fst := []) (cap := []) rfl rfl rfl rfl (by decide +kernel) ((mnext_ret (h.keep0 hS)).mono ?_))
  rintro r' w2' ⟨rfl, hww⟩
  rw [hww]
  refine ⟨fun _ => hS, ?_⟩
  refine dr_any 7 _ rfl (by decide +kernel) rfl rfl (fun w => val_index p.length hT rfl rfl rfl rfl rfl (by omega) w) ?_
  refine tk 8 ?_
  have hb2 := hS.blk hb (by simp)
  refine dr_op 9 rfl (by decide +kernel) rfl rfl (opTo_storeN [.int .i64 (L.length : Nat)] rfl rfl rfl rfl size_mn hb2 (by simp; omega) (mone rfl) ?_)
  intro w3 hs3 hk3 hb3
  refine ⟨fun h => absurd (by simp) h, ?_⟩
  refine dr_done (by decide +kernel) ?_
  have h2 := h.keep0 hS
  have hgb : g ≠ b := Blk.ne hb h.bk neMI.symm
  refine au ?_
  refine rn_end Tryz.func90 (.inr (.inl ⟨rfl, rfl⟩)) ⟨rfl, ⟨.slice (some ⟨g, 0, none⟩) L.length cap, h2.kp.trB hk3 hB, h.ge, hk3.blk h2.bk (by simpa using hgb.symm), ?_⟩, (Mf.of0 hS).tr (Mf.of hk3 fun k hm => ⟨cur, tIn, by rw [List.mem_singleton.1 hm]; exact hb2, .inr rfl⟩)⟩
  have e : (p ++ (op, (((p ++ (op, a, c, n) :: r).length : Nat) : Int), c, n) :: r).length = L.length := by rw [hL]; simp
  refine ⟨isC_length _, .inr ⟨g, cap, _, by rw [e], hB, hb3, by rw [e]; exact hc, by rw [splice_length (by simp; omega)]; exact hl, ?_⟩⟩
  rw [e]
  rw [hL] at ht ⊢
  exact splice_row _ ht

theorem mcell_ret {vs : List VarT} {bd : List ST} {F : Nat → Prop} (C : Cx vs bd F w0 vv bv) (h : Mk w0 w b v l vv bv) (k : Int) : Ret Tryz.prog 73 [.pointer (some ⟨b, 0, none⟩), .int .i64 k] w fun r w' => r = .int .i64 (cellOf vs k) ∧ Keep [] w w' := by
  refine ret_of 11 Tryz.func73 rfl rfl (by simp) ?_
  refine au ?_
  refine pl_val (.agg #[vv, bv]) rfl rfl (val_load [vv, bv] hT rfl rfl rfl (h.bk.range (by rfl))) ?_
  refine au ?_
  refine pl_op rfl rfl (opTo_call (fst := []) (cap := []) rfl rfl rfl rfl (by decide +kernel) ((cell_ret (C.pr.keep h.kp C.hF.stays) (C.hF.keep h.kp) C.sz k).mono ?_))
  rintro r w1 ⟨rfl, hk1⟩
  refine au ?_
  exact rn_ret Tryz.func73 (.inl ⟨_, rfl, rfl⟩) ⟨rfl, hk1⟩

theorem msize_ret {vs : List VarT} {bd : List ST} {F : Nat → Prop} (C : Cx vs bd F w0 vv bv) (h : Mk w0 w b v l vv bv) (k : Int) (h0 : 0 ≤ k) (hk : k.toNat < vs.length) : Ret Tryz.prog 74 [.pointer (some ⟨b, 0, none⟩), .int .i64 k] w fun r w' => r = .int .i64 (sizeV vs k) ∧ w' = w := by
  obtain ⟨k, rfl⟩ : ∃ k' : Nat, k = (k' : Nat) := ⟨k.toNat, by omega⟩
  simp only [Int.toNat_natCast] at hk
  have hxv : vs[k]? = some vs[k] := List.getElem?_eq_getElem hk
  obtain ⟨vv', bv', hpe, hv, _⟩ := C.pr
  cases hpe
  obtain ⟨vb, vq, vc, rfl, hFv, hrv⟩ := hv.at hxv
  have hsv : sizeV vs ((k : Nat) : Int) = vs[k].2 := by
    unfold sizeV
    rw [Int.toNat_natCast, List.getD_eq_getElem?_getD, hxv]
    rfl
  rw [hsv]
  refine ret_of 14 Tryz.func74 rfl rfl (by simp) ?_
  refine au ?_
  refine pl_val _ rfl rfl (val_load1 hT rfl rfl rfl (h.bk.cell rfl)) ?_
  refine au ?_
  refine pl_val _ rfl rfl (val_index k hT rfl rfl rfl rfl rfl hk w) ?_
  refine au ?_
  refine pl_val _ rfl rfl (val_load1 hT rfl rfl rfl ((range_keep hrv h.kp (C.hF _ hFv) (by simp)) 1 (.int .i64 vs[k].2) rfl)) ?_
  refine au ?_
  exact rn_ret Tryz.func74 (.inl ⟨_, rfl, rfl⟩) ⟨rfl, rfl⟩
end
end E
end Go.Proofs.YtdodmemljdhpnaeGreat

/- The landed maker: contract of expr. -/
namespace Go.Proofs.YtdodmemljdhpnaeGreat
set_option maxRecDepth 20000
set_option maxHeartbeats 4000000
namespace E
open Go.Proofs

theorem neEM : 57 ≠ tMk := by decide
theorem neEI : 57 ≠ tIn := by decide
theorem zero_me : ((Tryz.prog.info? 57).bind (·.zero)).map (·.cells) = some [Value.int .i64 0, .int .i64 0, .int .i64 0, .slice none 0 0].toArray := by kernel_rfl
theorem size_me : sizeOk Tryz.prog 57 4 = true := by kernel_rfl

/-- expr does for what is smaller. -/
def ExM (vs : List VarT) (F : Nat → Prop) (w0 : World) (b : Nat) (vv bv : Value) (s : Nat) : Prop := ∀ (t : ET), szE t < s → gdE vs.length t → ∀ {w : World} {cs : List Value} {L : List Is}, ExprV F w0 cs t → Mt w0 w b L vv bv → L.length + szE t ≤ 900000 →
    Ret Tryz.prog 72 [.pointer (some ⟨b, 0, none⟩), .agg cs.toArray] w fun r w' => r = .tuple #[] ∧ Mt w0 w' b (L ++ insE vs t) vv bv ∧ Mf w w'

theorem mexpr_ret {vs : List VarT} {bd : List ST} {F : Nat → Prop} {w0 : World} {vv bv : Value} (C : Cx vs bd F w0 vv bv) {b : Nat} : ∀ (s : Nat), ExM vs F w0 b vv bv s := by
  intro s
  induction s with
  | zero => intro t ht; omega
  | succ s ihs =>
    intro t ht hgd w cs L hX h hl
    obtain ⟨op, v, n, l⟩ := t
    obtain ⟨lv, rfl, hE⟩ := hX.inv
    obtain ⟨a, cap, rfl⟩ := hE.form
    obtain ⟨hg1, hg2⟩ := hgd
    simp only [szE] at ht hl
    have hlen := szEs_len l
    have hil := insEs_len vs l
    refine ret_of 49 Tryz.func72 rfl rfl (by simp) ?_
    refine au ?_
    refine pl_op rfl rfl (opTo_boxN [.int .i64 op, .int .i64 v, .int .i64 n, .slice a l.length cap] rfl rfl rfl ?_)
    intro w1 x1 hx1 hs1 hk1 hX1
    have h1 := h.keep0 hk1
    refine auj ?_
    refine rn_seq ?_
    refine rn_seq ?_
    refine auj ?_
    refine rn_plain ?_
    refine auj ?_
    refine pl_val _ rfl rfl (val_load1 hT rfl rfl rfl (hX1.cell rfl)) ?_
    refine au ?_
    refine rn_ind (fun m σ w' => ∃ i : Nat, i ≤ l.length ∧ m = l.length - i ∧ σ = [(0, .pointer (some ⟨b, 0, none⟩)), (3, .pointer (some ⟨x1, 0, none⟩)), (8, .slice a l.length cap), (9, .int .i64 (l.length : Nat)), (10, .int .i64 (i : Nat))] ∧ Mt w0 w' b (L ++ insEs vs (l.take i)) vv bv ∧ Mf w1 w') l.length _ ?_ ⟨0, by omega, by omega, rfl, by simpa [insEs] using h1, Mf.refl _⟩ ?_
    · exact ⟨rfl, rfl, rfl, rfl, rfl, trivial⟩
    rintro m σ w6 ih ⟨i, hi, rfl, rfl, h6, ho6⟩
    refine au ?_
    by_cases hlt : i < l.length
    · refine ye ?_
      have hxi : l[i]? = some l[i] := List.getElem?_eq_getElem hlt
      obtain ⟨b1, q1, c1, ci, hv1, hF1, hr1, hc1⟩ := hE.at hxi
      cases hv1
      have hszi := szEs_succ hxi
      have hszt := szEs_take l (i + 1)
      have hl1 := insEs_len vs (l.take i)
      have htk := insEs_take vs hxi
      refine au ?_
      refine pl_val _ rfl rfl (val_index i hT rfl rfl rfl rfl rfl hlt w6) ?_
      refine pl_val (.agg ci.toArray) rfl rfl (val_load ci hT rfl rfl (by rw [hc1.length]; rfl) (range_keep hr1 h6.kp (C.hF _ hF1) (by simp))) ?_
      refine pl_op rfl rfl (opTo_allocN _ rfl zero_me ?_)
      intro w7 x2 hx2 hs7 hk7 hb7
      refine pl_op rfl rfl (opTo_storeN ci rfl rfl rfl rfl (by rw [hc1.length]; exact size_me) hb7 (by rw [hc1.length]; simp) hc1.one ?_)
      intro w8 hs8 hk8 hb8
      rw [splice_whole (by rw [hc1.length]; rfl)] at hb8
      have hk68 : Keep [] w6 w8 := hk7.trB hk8 (by omega)
      refine au ?_
      refine pl_val (.agg ci.toArray) rfl rfl (val_load ci hT rfl rfl (by rw [hc1.length]; rfl) (hb8.range (by simp))) ?_
      refine pl_op rfl rfl (opTo_call (fst := []) (cap := []) rfl rfl rfl rfl (by decide +kernel) ((ihs l[i] (by omega) (gdEs_at hg2 hxi) hc1 (h6.keep0 hk68) (by simp only [List.length_append]; omega)).mono ?_))
      rintro r w9 ⟨rfl, h9, ho9⟩
      refine au ?_
      refine pl_num (((i + 1 : Nat) : Int)) rfl rfl rfl rfl rfl (by simp only [ariP]; omega) ?_
      refine au ?_
      refine rn_sub ?_ (ih (l.length - (i + 1)) [(0, .pointer (some ⟨b, 0, none⟩)), (3, .pointer (some ⟨x1, 0, none⟩)), (8, .slice (some ⟨b1, q1, none⟩) l.length cap), (9, .int .i64 (l.length : Nat)), (10, .int .i64 ((i + 1 : Nat) : Int))] w9 (by omega) ⟨i + 1, by omega, rfl, rfl, ?_, (ho6.tr (Mf.of0 hk68)).tr ho9⟩)
      · exact ⟨rfl, rfl, rfl, rfl, rfl, trivial⟩
      · rw [htk, ← List.append_assoc]
        exact h9
    · refine nay ?_
      rw [List.take_of_length_le (by omega)] at h6
      have hX6 := ho6.blk hX1 neEM neEI
      refine au ?_
      refine pl_val _ rfl rfl (val_load1 hT rfl rfl rfl (hX6.cell rfl)) ?_
      refine au ?_
      refine pl_val _ rfl rfl (val_load1 hT rfl rfl rfl (hX6.cell rfl)) ?_
      refine pl_val _ rfl rfl (val_build _ rfl rfl (built_mi03 op n) w6) ?_
      refine pl_op rfl rfl (opTo_allocN _ rfl zero_mi ?_)
      intro w7 x7 hx7 hs7 hk7 hb7
      refine pl_op rfl rfl (opTo_storeN (iC (op, 0, 0, n)) rfl rfl rfl rfl size_mi hb7 (by simp [iC]) (iC_mone _) ?_)
      intro w8 hs8 hk8 hb8
      rw [splice_whole (by rfl)] at hb8
      have hk68 : Keep [] w6 w8 := hk7.trB hk8 (by omega)
      have hX8 := hk68.blk hX6 (by simp)
      obtain ⟨mv, h8⟩ := h6.keep0 hk68
      refine auj ?_
      refine rn_seq ?_
      refine rn_with (fun σ' w' => Blk w' x7 (iC (op, if op = 2 ∨ op = 3 then cellOf vs v else 0, if op = 3 then sizeV vs v else 0, n)) tIn ∧ Keep [] w6 w' ∧ Sub [(0, .pointer (some ⟨b, 0, none⟩)), (6, .pointer (some ⟨x7, 0, none⟩))] σ') ?_ ?_
      rotate_left
      · intro fin
        refine au ?_
        refine pl_val _ rfl rfl (val_load1 hT rfl rfl rfl (hX8.cell rfl)) ?_
        refine au ?_
        by_cases h2 : op = 2
        · rw [if_pos (.inl h2), if_neg (by omega)] at fin
          refine ye ?_
          refine auj ?_
          refine rn_plain ?_
          refine auj ?_
          refine pl_val _ rfl rfl (val_load1 hT rfl rfl rfl (hX8.cell rfl)) ?_
          refine pl_op rfl rfl (opTo_call (fst := []) (cap := []) rfl rfl rfl rfl (by decide +kernel) ((mcell_ret C h8 v).mono ?_))
          rintro r w9 ⟨rfl, hk9⟩
          refine au ?_
          refine pl_op rfl rfl (opTo_storeN [.int .i64 (cellOf vs v)] rfl rfl rfl rfl size_mn (hk9.blk hb8 (by simp)) (by simp [iC]) (mone rfl) ?_)
          intro w10 hs10 hk10 hb10
          refine auj ?_
          exact fin _ _ ⟨hb10, (hk68.tr hk9).trB hk10 (by omega), rfl, rfl, trivial⟩
        · refine nay ?_
          refine au ?_
          by_cases h3 : op = 3
          · obtain ⟨hv0, hvl⟩ := hg1 (.inr h3)
            rw [if_pos (.inr h3), if_pos h3] at fin
            refine ye ?_
            refine auj ?_
            refine rn_draw (fun w' => Keep [] w8 w') [9, 11] hMix ?_
            have hS : Keep [] w8 w8.drew := (Keep.refl _ _).drew
            generalize w8.drew = w9 at *
            refine tk 0 ?_
            refine tk 1 ?_
            refine dr_val 2 (.int .i64 v) rfl (by decide +kernel) rfl rfl (fun w9 hS9 => val_load1 hT rfl rfl rfl ((hS9.blk hX8 (by simp)).cell rfl)) hS ?_
            refine tk 4 ?_
            refine tk 5 ?_
            refine dr_val 6 (.int .i64 v) rfl (by decide +kernel) rfl rfl (fun w9 hS9 => val_load1 hT rfl rfl rfl ((hS9.blk hX8 (by simp)).cell rfl)) hS ?_
            refine dr_op 3 rfl (by decide +kernel) rfl rfl (opTo_call (fst := []) (cap := []) rfl rfl rfl rfl (by decide +kernel) ((mcell_ret C (h8.keep0 hS) v).mono ?_))
            rintro r w10 ⟨rfl, hk10⟩
            have hS10 := hS.tr hk10
            refine ⟨fun _ => hS10, ?_⟩
            refine tk 8 ?_
            refine dr_op 7 rfl (by decide +kernel) rfl rfl (opTo_call (fst := []) (cap := []) rfl rfl rfl rfl (by decide +kernel) ((msize_ret C (h8.keep0 hS10) v hv0 hvl).mono ?_))
            rintro r w10' ⟨rfl, hww⟩
            rw [hww]
            refine ⟨fun _ => hS10, ?_⟩
            refine dr_op 9 rfl (by decide +kernel) rfl rfl (opTo_storeN [.int .i64 (cellOf vs v)] rfl rfl rfl rfl size_mn (hS10.blk hb8 (by simp)) (by simp [iC]) (mone rfl) ?_)
            intro w11 hs11 hk11 hb11
            refine ⟨fun h => absurd (by simp) h, ?_⟩
            refine tk 10 ?_
            refine dr_op 11 rfl (by decide +kernel) rfl rfl (opTo_storeN [.int .i64 (sizeV vs v)] rfl rfl rfl rfl size_mn hb11 (by simp [iC, splice]) (mone rfl) ?_)
            intro w12 hs12 hk12 hb12
            refine ⟨fun h => absurd (by simp) h, ?_⟩
            refine dr_done (by decide +kernel) ?_
            refine auj ?_
            exact fin _ _ ⟨hb12, ((hk68.tr hS10).trB hk11 (by omega)).trB hk12 (by omega), rfl, rfl, trivial⟩
          · refine nay ?_
            rw [if_neg (by omega), if_neg h3] at fin
            refine auj ?_
            exact fin _ _ ⟨hb8, hk68, rfl, rfl, trivial⟩
      clear hb8 hk8 hs8 h8 hX8 hk68
      rintro σ' w10 ⟨hb10, hk610, hsub⟩
      refine rn_sub hsub ?_
      obtain ⟨X, hXe⟩ : ∃ X : Is, X = (op, if op = 2 ∨ op = 3 then cellOf vs v else 0, if op = 3 then sizeV vs v else 0, n) := ⟨_, rfl⟩
      rw [← hXe] at hb10
      refine rn_draw (fun w' => Keep [] w10 w') [4] hMix ?_
      have hS : Keep [] w10 w10.drew := (Keep.refl _ _).drew
      generalize w10.drew = w11 at *
      refine tk 0 ?_
      refine tk 1 ?_
      refine tk 2 ?_
      refine dr_val 3 (.agg (iC X).toArray) rfl (by decide +kernel) rfl rfl (fun w9 hS9 => val_load (iC X) hT rfl rfl rfl ((hS9.blk hb10 (by simp)).range (by rfl))) hS ?_
      refine dr_op 4 rfl (by decide +kernel) rfl rfl (opTo_call (fst := []) (cap := []) rfl rfl rfl rfl (by decide +kernel) ((madd_ret (h6.keep0 (hk610.tr hS)) X (by simp only [List.length_append]; omega)).mono ?_))
      rintro r w12 ⟨rfl, h12, ho12⟩
      refine ⟨fun h => absurd (by simp) h, ?_⟩
      refine dr_done (by decide +kernel) ?_
      refine au ?_
      refine rn_end Tryz.func72 (.inr (.inl ⟨rfl, rfl⟩)) ⟨rfl, ?_, ((Mf.of0 hk1).tr ho6).tr ((Mf.of0 (hk610.tr hS)).tr ho12)⟩
      simp only [insE]
      rw [← hXe, ← List.append_assoc]
      exact h12
end E
end Go.Proofs.YtdodmemljdhpnaeGreat

/- The landed maker: contracts of stmts, loop, choice, stmt, and of Make. -/
namespace Go.Proofs.YtdodmemljdhpnaeGreat
set_option maxRecDepth 20000
set_option maxHeartbeats 4000000
namespace E
open Go.Proofs

theorem neSM : 59 ≠ tMk := by decide
theorem neSI : 59 ≠ tIn := by decide
theorem zero_mt : ((Tryz.prog.info? 59).bind (·.zero)).map (·.cells) = some stmtZ.toArray := by kernel_rfl
theorem size_mt : sizeOk Tryz.prog 59 12 = true := by kernel_rfl
theorem list4m {l : List Value} (h : l.length = 4) : ∃ a b c d, l = [a, b, c, d] := by
  match l, h with
  | [a, b, c, d], _ => exact ⟨a, b, c, d, rfl⟩

/-- What loop and choice make behind what there is. -/
def whT (i0 : Nat) (L X : List Is) : List Is := L ++ (13, ((L.length + 1 + X.length + 1 : Nat) : Int), 0, 0) :: (X ++ [(14, ((i0 : Nat) : Int), 0, 0)])
def ifT (L X Y : List Is) : List Is := L ++ (13, ((L.length + 1 + X.length + 1 : Nat) : Int), 0, 0) :: (X ++ (14, ((L.length + 1 + X.length + 1 + Y.length : Nat) : Int), 0, 0) :: Y)

section
variable {w0 w : World} {b : Nat} {vv bv : Value}
theorem mleadT {l l' p r : List Is} {op a c n : Int} (k : Nat) (h : Mt w0 w b l vv bv) (hk : k = p.length) (hl : l = p ++ (op, a, c, n) :: r) (hl' : l' = p ++ (op, ((l.length : Nat) : Int), c, n) :: r) : Ret Tryz.prog 90 [.pointer (some ⟨b, 0, none⟩), .int .i64 (k : Nat)] w fun r' w' => r' = .tuple #[] ∧ Mt w0 w' b l' vv bv ∧ Mf w w' := by
  subst hk hl hl'
  exact mlead_ret h
theorem maddT {l l' : List Is} (k : Nat) (h : Mt w0 w b l vv bv) (x : Is) (hl : l.length ≤ 900000) (hk : k = l.length) (hl' : l' = l ++ [x]) : Ret Tryz.prog 26 [.pointer (some ⟨b, 0, none⟩), .agg (iC x).toArray] w fun r w' => r = .int .i64 (k : Nat) ∧ Mt w0 w' b l' vv bv ∧ Mf w w' := by
  subst hk hl'
  exact madd_ret h x hl
end

/-- stmt does for what is smaller. -/
def StM (vs : List VarT) (F : Nat → Prop) (w0 : World) (b : Nat) (vv bv : Value) (s : Nat) : Prop := ∀ (t : ST), szS t < s → gdS vs.length t → ∀ {w : World} {cs : List Value} {L : List Is}, StmtV F w0 cs t → Mt w0 w b L vv bv → L.length + 2 * szS t ≤ 900000 →
    Ret Tryz.prog 46 [.pointer (some ⟨b, 0, none⟩), .agg cs.toArray] w fun r w' => r = .tuple #[] ∧ Mt w0 w' b (L ++ insS vs t L.length) vv bv ∧ Mf w w'

section
variable {vs : List VarT} {bd : List ST} {F : Nat → Prop} {w0 : World} {vv bv : Value} {b s : Nat}
theorem mstmts_ret (hF : In F w0) (hst : StM vs F w0 b vv bv s) (l : List ST) (hls : szSs l < s) (hgd : gdSs vs.length l) {w : World} {x : Value} {L : List Is} (hE : StmtsV F w0 x l) (h : Mt w0 w b L vv bv) (hl : L.length + 2 * szSs l ≤ 900000) :
    Ret Tryz.prog 25 [.pointer (some ⟨b, 0, none⟩), x] w fun r w' => r = .tuple #[] ∧ Mt w0 w' b (L ++ insSs vs l L.length) vv bv ∧ Mf w w' := by
  obtain ⟨a, cap, rfl⟩ := hE.form
  have hlen := szSs_len l
  refine ret_of 16 Tryz.func25 rfl rfl (by simp) ?_
  refine au ?_
  refine rn_ind (fun m σ w' => ∃ i : Nat, i ≤ l.length ∧ m = l.length - i ∧ σ = [(0, .pointer (some ⟨b, 0, none⟩)), (6, .slice a l.length cap), (7, .int .i64 (l.length : Nat)), (8, .int .i64 (i : Nat))] ∧ Mt w0 w' b (L ++ insSs vs (l.take i) L.length) vv bv ∧ Mf w w') l.length _ ?_ ⟨0, by omega, by omega, rfl, by simpa [insSs] using h, Mf.refl _⟩ ?_
  · exact ⟨rfl, rfl, rfl, rfl, trivial⟩
  rintro m σ w6 ih ⟨i, hi, rfl, rfl, h6, ho6⟩
  refine au ?_
  by_cases hlt : i < l.length
  · refine ye ?_
    have hxi : l[i]? = some l[i] := List.getElem?_eq_getElem hlt
    obtain ⟨b1, q1, c1, ci, hv1, hF1, hr1, hc1⟩ := hE.at hxi
    cases hv1
    have hszi := szSs_succ hxi
    have hszt := szSs_take l (i + 1)
    have hl1 := insSs_len vs (l.take i) L.length
    have htk := insSs_take vs hxi L.length
    refine au ?_
    refine pl_val _ rfl rfl (val_index i hT rfl rfl rfl rfl rfl hlt w6) ?_
    refine pl_val (.agg ci.toArray) rfl rfl (val_load ci hT rfl rfl (by rw [hc1.length]; rfl) (range_keep hr1 h6.kp (hF _ hF1) (by simp))) ?_
    refine pl_op rfl rfl (opTo_allocN _ rfl zero_mt ?_)
    intro w7 x2 hx2 hs7 hk7 hb7
    refine pl_op rfl rfl (opTo_storeN ci rfl rfl rfl rfl (by rw [hc1.length]; exact size_mt) hb7 (by rw [hc1.length]; simp [stmtZ]) hc1.one ?_)
    intro w8 hs8 hk8 hb8
    rw [splice_whole (by rw [hc1.length]; rfl)] at hb8
    have hk68 : Keep [] w6 w8 := hk7.trB hk8 (by omega)
    refine au ?_
    refine pl_val (.agg ci.toArray) rfl rfl (val_load ci hT rfl rfl (by rw [hc1.length]; rfl) (hb8.range (by simp))) ?_
    refine pl_op rfl rfl (opTo_call (fst := []) (cap := []) rfl rfl rfl rfl (by decide +kernel) ((hst l[i] (by omega) (gdSs_at hgd hxi) hc1 (h6.keep0 hk68) (by simp only [List.length_append]; omega)).mono ?_))
    rintro r w9 ⟨rfl, h9, ho9⟩
    refine au ?_
    refine pl_num (((i + 1 : Nat) : Int)) rfl rfl rfl rfl rfl (by simp only [ariP]; omega) ?_
    refine au ?_
    refine rn_sub ?_ (ih (l.length - (i + 1)) [(0, .pointer (some ⟨b, 0, none⟩)), (6, .slice (some ⟨b1, q1, none⟩) l.length cap), (7, .int .i64 (l.length : Nat)), (8, .int .i64 ((i + 1 : Nat) : Int))] w9 (by omega) ⟨i + 1, by omega, rfl, rfl, ?_, (ho6.tr (Mf.of0 hk68)).tr ho9⟩)
    · exact ⟨rfl, rfl, rfl, rfl, trivial⟩
    · rw [htk, ← List.append_assoc]
      rw [List.length_append] at h9
      exact h9
  · refine nay ?_
    rw [List.take_of_length_le (by omega)] at h6
    refine au ?_
    exact rn_end Tryz.func25 (.inr (.inl ⟨rfl, rfl⟩)) ⟨rfl, h6, ho6⟩
theorem mstmtsT (hF : In F w0) (hst : StM vs F w0 b vv bv s) (l : List ST) (hls : szSs l < s) (hgd : gdSs vs.length l) {w : World} {x : Value} {L L' : List Is} (i0 : Nat) (hE : StmtsV F w0 x l) (h : Mt w0 w b L vv bv) (hl : L.length + 2 * szSs l ≤ 900000) (hi : i0 = L.length) (hL' : L' = L ++ insSs vs l i0) :
    Ret Tryz.prog 25 [.pointer (some ⟨b, 0, none⟩), x] w fun r w' => r = .tuple #[] ∧ Mt w0 w' b L' vv bv ∧ Mf w w' := by
  subst hi hL'
  exact mstmts_ret hF hst l hls hgd hE h hl

theorem mloop_ret (hF : In F w0) (hst : StM vs F w0 b vv bv s) (l : List ST) (hls : szSs l < s) (hgd : gdSs vs.length l) (i0 : Nat) {w : World} {x : Value} {L : List Is} (hE : StmtsV F w0 x l) (h : Mt w0 w b L vv bv) (hl : L.length + 2 * szSs l + 2 ≤ 900000) :
    Ret Tryz.prog 75 [.pointer (some ⟨b, 0, none⟩), .int .i64 (i0 : Nat), x] w fun r w' => r = .tuple #[] ∧ Mt w0 w' b (whT i0 L (insSs vs l (L.length + 1))) vv bv ∧ Mf w w' := by
  have hXl := insSs_len vs l (L.length + 1)
  obtain ⟨X, hX⟩ : ∃ X, X = insSs vs l (L.length + 1) := ⟨_, rfl⟩
  rw [← hX] at hXl ⊢
  refine ret_of 26 Tryz.func75 rfl rfl (by simp) ?_
  refine au ?_
  refine pl_val _ rfl rfl (val_build _ rfl rfl (built_mi0 13) w) ?_
  refine pl_op rfl rfl (opTo_call (fst := []) (cap := []) rfl rfl rfl rfl (by decide +kernel) ((madd_ret h (13, 0, 0, 0) (by omega)).mono ?_))
  rintro r w1 ⟨rfl, h1, ho1⟩
  refine au ?_
  refine pl_op rfl rfl (opTo_call (fst := []) (cap := []) rfl rfl rfl rfl (by decide +kernel) ((mstmtsT hF hst l hls hgd (L' := L ++ (13, 0, 0, 0) :: X) (L.length + 1) hE h1 (by simp; omega) (by simp) (by rw [hX]; simp)).mono ?_))
  rintro r w2 ⟨rfl, h2, ho2⟩
  refine au ?_
  refine pl_val _ rfl rfl (val_build _ rfl rfl (built_mi1 14 ((i0 : Nat) : Int)) w2) ?_
  refine pl_op rfl rfl (opTo_call (fst := []) (cap := []) rfl rfl rfl rfl (by decide +kernel) ((madd_ret h2 (14, ((i0 : Nat) : Int), 0, 0) (by simp; omega)).mono ?_))
  rintro r w3 ⟨rfl, h3, ho3⟩
  refine au ?_
  refine pl_op rfl rfl (opTo_call (fst := []) (cap := []) rfl rfl rfl rfl (by decide +kernel) ((mleadT (op := 13) (a := 0) (c := 0) (n := 0) (l' := whT i0 L X) (p := L) (r := X ++ [(14, ((i0 : Nat) : Int), 0, 0)]) L.length h3 rfl (by simp) (by simp [whT]; omega)).mono ?_))
  rintro r w4 ⟨rfl, h4, ho4⟩
  refine au ?_
  exact rn_end Tryz.func75 (.inr (.inl ⟨rfl, rfl⟩)) ⟨rfl, h4, ((ho1.tr ho2).tr ho3).tr ho4⟩

theorem mchoice_ret (hF : In F w0) (hst : StM vs F w0 b vv bv s) (l lo : List ST) (hls : szSs l + szSs lo < s) (hgd : gdSs vs.length l) (hgo : gdSs vs.length lo) {w : World} {x y : Value} {L : List Is} (hE : StmtsV F w0 x l) (hO : StmtsV F w0 y lo) (h : Mt w0 w b L vv bv) (hl : L.length + 2 * szSs l + 2 * szSs lo + 2 ≤ 900000) :
    Ret Tryz.prog 76 [.pointer (some ⟨b, 0, none⟩), x, y] w fun r w' => r = .tuple #[] ∧ Mt w0 w' b (ifT L (insSs vs l (L.length + 1)) (insSs vs lo (L.length + 1 + (insSs vs l (L.length + 1)).length + 1))) vv bv ∧ Mf w w' := by
  have hXl := insSs_len vs l (L.length + 1)
  obtain ⟨X, hX⟩ : ∃ X, X = insSs vs l (L.length + 1) := ⟨_, rfl⟩
  rw [← hX] at hXl ⊢
  have hYl := insSs_len vs lo (L.length + 1 + X.length + 1)
  obtain ⟨Y, hY⟩ : ∃ Y, Y = insSs vs lo (L.length + 1 + X.length + 1) := ⟨_, rfl⟩
  rw [← hY] at hYl ⊢
  refine ret_of 34 Tryz.func76 rfl rfl (by simp) ?_
  refine au ?_
  refine pl_val _ rfl rfl (val_build _ rfl rfl (built_mi0 13) w) ?_
  refine pl_op rfl rfl (opTo_call (fst := []) (cap := []) rfl rfl rfl rfl (by decide +kernel) ((madd_ret h (13, 0, 0, 0) (by omega)).mono ?_))
  rintro r w1 ⟨rfl, h1, ho1⟩
  refine au ?_
  refine pl_op rfl rfl (opTo_call (fst := []) (cap := []) rfl rfl rfl rfl (by decide +kernel) ((mstmtsT hF hst l (by omega) hgd (L' := L ++ (13, 0, 0, 0) :: X) (L.length + 1) hE h1 (by simp; omega) (by simp) (by rw [hX]; simp)).mono ?_))
  rintro r w2 ⟨rfl, h2, ho2⟩
  refine au ?_
  refine pl_val _ rfl rfl (val_build _ rfl rfl (built_mi0 14) w2) ?_
  refine pl_op rfl rfl (opTo_call (fst := []) (cap := []) rfl rfl rfl rfl (by decide +kernel) ((maddT (l' := L ++ (13, 0, 0, 0) :: (X ++ [(14, 0, 0, 0)])) (L.length + 1 + X.length) h2 (14, 0, 0, 0) (by simp; omega) (by simp; omega) (by simp)).mono ?_))
  rintro r w3 ⟨rfl, h3, ho3⟩
  refine au ?_
  refine pl_op rfl rfl (opTo_call (fst := []) (cap := []) rfl rfl rfl rfl (by decide +kernel) ((mleadT (op := 13) (a := 0) (c := 0) (n := 0) (l' := L ++ (13, ((L.length + 1 + X.length + 1 : Nat) : Int), 0, 0) :: (X ++ [(14, 0, 0, 0)])) (p := L) (r := X ++ [(14, 0, 0, 0)]) L.length h3 rfl rfl (by simp; omega)).mono ?_))
  rintro r w4 ⟨rfl, h4, ho4⟩
  refine au ?_
  refine pl_op rfl rfl (opTo_call (fst := []) (cap := []) rfl rfl rfl rfl (by decide +kernel) ((mstmtsT hF hst lo (by omega) hgo (L' := (L ++ (13, ((L.length + 1 + X.length + 1 : Nat) : Int), 0, 0) :: X) ++ (14, 0, 0, 0) :: Y) (L.length + 1 + X.length + 1) hO h4 (by simp; omega) (by simp; omega) (by rw [hY]; simp)).mono ?_))
  rintro r w5 ⟨rfl, h5, ho5⟩
  refine au ?_
  refine pl_op rfl rfl (opTo_call (fst := []) (cap := []) rfl rfl rfl rfl (by decide +kernel) ((mleadT (op := 14) (a := 0) (c := 0) (n := 0) (l' := ifT L X Y) (p := L ++ (13, ((L.length + 1 + X.length + 1 : Nat) : Int), 0, 0) :: X) (r := Y) (L.length + 1 + X.length) h5 (by simp; omega) rfl (by simp [ifT]; omega)).mono ?_))
  rintro r w6 ⟨rfl, h6, ho6⟩
  refine au ?_
  exact rn_end Tryz.func76 (.inr (.inl ⟨rfl, rfl⟩)) ⟨rfl, h6, ((((ho1.tr ho2).tr ho3).tr ho4).tr ho5).tr ho6⟩
end

theorem mstmt_ret {vs : List VarT} {bd : List ST} {F : Nat → Prop} {w0 : World} {vv bv : Value} (C : Cx vs bd F w0 vv bv) {b : Nat} : ∀ (s : Nat), StM vs F w0 b vv bv s := by
  intro s
  induction s with
  | zero => intro t ht; omega
  | succ s ihs =>
    intro t ht hgd w cs L hX h hl
    obtain ⟨op, v, e, f, lb, lo⟩ := t
    obtain ⟨ce, cf, bv', ov, rfl, he, hf, hb, ho⟩ := hX.inv
    obtain ⟨e0, e1, e2, e3, rfl⟩ := list4m he.length
    obtain ⟨f0, f1, f2, f3, rfl⟩ := list4m hf.length
    obtain ⟨ba, bc, rfl⟩ := hb.form
    obtain ⟨oa, oc, rfl⟩ := ho.form
    obtain ⟨hp1, hp2, hp3, hp4, hp5, hp6, hp7⟩ := hgd
    simp only [szS] at ht hl
    have hel := eI_len vs op e
    obtain ⟨E, hEdef⟩ : ∃ E, eI vs op e = E := ⟨_, rfl⟩
    rw [hEdef] at hel
    refine ret_of 100 Tryz.func46 rfl rfl (by simp) ?_
    refine au ?_
    refine pl_op rfl rfl (opTo_boxN [.int .i64 op, .int .i64 v, e0, e1, e2, e3, f0, f1, f2, f3, .slice ba lb.length bc, .slice oa lo.length oc] rfl rfl rfl ?_)
    intro w1 x1 hx1 hs1 hk1 hX1
    obtain ⟨mv1, h1⟩ := h.keep0 hk1
    refine au ?_
    refine pl_op rfl rfl (opTo_call (fst := []) (cap := []) rfl rfl rfl rfl (by decide +kernel) ((mnext_ret h1).mono ?_))
    rintro r w1' ⟨rfl, hww⟩
    rw [hww]
    refine auj ?_
    refine rn_seq ?_
    refine rn_with (fun σ' w' => Mt w0 w' b (L ++ E) vv bv ∧ Mf w1 w' ∧ Sub [(0, .pointer (some ⟨b, 0, none⟩)), (3, .pointer (some ⟨x1, 0, none⟩)), (4, .int .i64 (L.length : Nat))] σ') ?_ ?_
    rotate_left
    · intro fin
      refine au ?_
      refine pl_val _ rfl rfl (val_load1 hT rfl rfl rfl (hX1.cell rfl)) ?_
      obtain ⟨qe, hqe⟩ : ∃ q, q = needE op := ⟨_, rfl⟩
      refine pl_op rfl rfl (opTo_call (fst := []) (cap := []) rfl rfl rfl rfl (by decide +kernel) ((has_ret op w1).mono ?_))
      rintro r w3 ⟨hr, hww⟩
      unfold hasV at hr
      rw [← hqe] at hr
      subst hr
      rw [hww]
      unfold eI at hEdef
      rw [← hqe] at hEdef
      cases qe with
      | false =>
        refine auj ?_
        refine rn_seq ?_
        refine rn_plain ?_
        refine auj ?_
        have hE0 : E = [] := by rw [← hEdef]; rfl
        exact fin _ _ ⟨by rw [hE0, List.append_nil]; exact ⟨_, h1⟩, Mf.refl _, rfl, rfl, rfl, trivial⟩
      | true =>
        refine au ?_
        refine pl_val (.agg #[e0, e1, e2, e3]) rfl rfl (val_load [e0, e1, e2, e3] hT rfl rfl rfl (hX1.range rfl)) ?_
        refine pl_op rfl rfl (opTo_call (fst := []) (cap := []) rfl rfl rfl rfl (by decide +kernel) ((mexpr_ret C (szE e + 1) e (by omega) (hp4 hqe.symm) he (⟨_, h1⟩ : Mt w0 w1 b L vv bv) (by omega)).mono ?_))
        rintro r w4 ⟨rfl, h4, ho4⟩
        refine auj ?_
        have hE1 : E = insE vs e := by rw [← hEdef]; rfl
        exact fin _ _ ⟨by rw [hE1]; exact h4, ho4, rfl, rfl, rfl, trivial⟩
    rintro σ' w4 ⟨⟨mv, h4⟩, ho4, hsub⟩
    refine rn_sub hsub ?_
    clear hsub
    have hX4 := ho4.blk hX1 neSM neSI
    have ho04 : Mf w w4 := (Mf.of0 hk1).tr ho4
    refine au ?_
    refine pl_val _ rfl rfl (val_load1 hT rfl rfl rfl (hX4.cell rfl)) ?_
    refine au ?_
    by_cases hop1 : op = 1
    · subst hop1
      refine ye ?_
      refine au ?_
      refine rn_draw (fun w' => Keep [] w4 w') [8] hMix ?_
      have hS : Keep [] w4 w4.drew := (Keep.refl _ _).drew
      generalize w4.drew = w5 at *
      refine tk 0 ?_
      refine tk 1 ?_
      refine tk 2 ?_
      refine tk 3 ?_
      refine tk 4 ?_
      refine dr_val 5 (.int .i64 v) rfl (by decide +kernel) rfl rfl (fun w9 hS9 => val_load1 hT rfl rfl rfl ((hS9.blk hX4 (by simp)).cell rfl)) hS ?_
      refine dr_op 6 rfl (by decide +kernel) rfl rfl (opTo_call (fst := []) (cap := []) rfl rfl rfl rfl (by decide +kernel) ((mcell_ret C (h4.keep0 hS) v).mono ?_))
      rintro r w6 ⟨rfl, hk6⟩
      have hS6 := hS.tr hk6
      refine ⟨fun _ => hS6, ?_⟩
      refine dr_any 7 _ rfl (by decide +kernel) rfl rfl (fun w => val_build _ rfl rfl (built_mi1 9 (cellOf vs v)) w) ?_
      refine dr_op 8 rfl (by decide +kernel) rfl rfl (opTo_call (fst := []) (cap := []) rfl rfl rfl rfl (by decide +kernel) ((madd_ret (⟨mv, h4.keep0 hS6⟩ : Mt w0 w6 b (L ++ E) vv bv) (9, cellOf vs v, 0, 0) (by simp only [List.length_append]; omega)).mono ?_))
      rintro r w7 ⟨rfl, h7, ho7⟩
      refine ⟨fun h => absurd (by simp) h, ?_⟩
      refine dr_done (by decide +kernel) ?_
      refine au ?_
      refine rn_end Tryz.func46 (.inr (.inl ⟨rfl, rfl⟩)) ⟨rfl, ?_, (ho04.tr (Mf.of0 hS6)).tr ho7⟩
      simpa [insS, lastI, fI, needF, hEdef] using h7
    refine nay ?_
    refine au ?_
    by_cases hop2 : op = 2
    · subst hop2
      refine ye ?_
      obtain ⟨hv0, hvl⟩ := hp3 rfl
      refine au ?_
      refine pl_val (.agg #[f0, f1, f2, f3]) rfl rfl (val_load [f0, f1, f2, f3] hT rfl rfl rfl (hX4.range rfl)) ?_
      refine pl_op rfl rfl (opTo_call (fst := []) (cap := []) rfl rfl rfl rfl (by decide +kernel) ((mexpr_ret C (szE f + 1) f (by omega) (hp5 rfl) hf (⟨mv, h4⟩ : Mt w0 w4 b (L ++ E) vv bv) (by simp only [List.length_append]; omega)).mono ?_))
      rintro r w5 ⟨rfl, ⟨mv5, h5⟩, ho5⟩
      have hX5 := ho5.blk hX4 neSM neSI
      have hfl2 := insE_len vs f
      refine au ?_
      refine rn_draw (fun w' => Keep [] w5 w') [12] hMix ?_
      have hS : Keep [] w5 w5.drew := (Keep.refl _ _).drew
      generalize w5.drew = w6 at *
      refine tk 0 ?_
      refine tk 1 ?_
      refine tk 2 ?_
      refine tk 3 ?_
      refine tk 4 ?_
      refine dr_val 5 (.int .i64 v) rfl (by decide +kernel) rfl rfl (fun w9 hS9 => val_load1 hT rfl rfl rfl ((hS9.blk hX5 (by simp)).cell rfl)) hS ?_
      refine tk 7 ?_
      refine tk 8 ?_
      refine dr_val 9 (.int .i64 v) rfl (by decide +kernel) rfl rfl (fun w9 hS9 => val_load1 hT rfl rfl rfl ((hS9.blk hX5 (by simp)).cell rfl)) hS ?_
      refine dr_op 6 rfl (by decide +kernel) rfl rfl (opTo_call (fst := []) (cap := []) rfl rfl rfl rfl (by decide +kernel) ((mcell_ret C (h5.keep0 hS) v).mono ?_))
      rintro r w7 ⟨rfl, hk7⟩
      have hS7 := hS.tr hk7
      refine ⟨fun _ => hS7, ?_⟩
      refine dr_op 10 rfl (by decide +kernel) rfl rfl (opTo_call (fst := []) (cap := []) rfl rfl rfl rfl (by decide +kernel) ((msize_ret C (h5.keep0 hS7) v hv0 hvl).mono ?_))
      rintro r w7' ⟨rfl, hww⟩
      rw [hww]
      refine ⟨fun _ => hS7, ?_⟩
      refine dr_any 11 _ rfl (by decide +kernel) rfl rfl (fun w => val_build _ rfl rfl (built_mi2 10 (cellOf vs v) (sizeV vs v)) w) ?_
      refine dr_op 12 rfl (by decide +kernel) rfl rfl (opTo_call (fst := []) (cap := []) rfl rfl rfl rfl (by decide +kernel) ((madd_ret (⟨mv5, h5.keep0 hS7⟩ : Mt w0 w7 b (L ++ E ++ insE vs f) vv bv) (10, cellOf vs v, sizeV vs v, 0) (by simp only [List.length_append]; omega)).mono ?_))
      rintro r w8 ⟨rfl, h8, ho8⟩
      refine ⟨fun h => absurd (by simp) h, ?_⟩
      refine dr_done (by decide +kernel) ?_
      refine au ?_
      refine rn_end Tryz.func46 (.inr (.inl ⟨rfl, rfl⟩)) ⟨rfl, ?_, ((ho04.tr ho5).tr (Mf.of0 hS7)).tr ho8⟩
      simpa [insS, lastI, fI, needF, hEdef] using h8
    refine nay ?_
    refine au ?_
    by_cases hop3 : op = 3
    · subst hop3
      refine ye ?_
      refine au ?_
      refine pl_val _ rfl rfl (val_build _ rfl rfl (built_mi0 11) w4) ?_
      refine pl_op rfl rfl (opTo_call (fst := []) (cap := []) rfl rfl rfl rfl (by decide +kernel) ((madd_ret (⟨mv, h4⟩ : Mt w0 w4 b (L ++ E) vv bv) (11, 0, 0, 0) (by simp only [List.length_append]; omega)).mono ?_))
      rintro r w5 ⟨rfl, h5, ho5⟩
      refine au ?_
      refine rn_end Tryz.func46 (.inr (.inl ⟨rfl, rfl⟩)) ⟨rfl, ?_, ho04.tr ho5⟩
      simpa [insS, lastI, fI, needF, hEdef] using h5
    refine nay ?_
    refine au ?_
    by_cases hop4 : op = 4
    · subst hop4
      refine ye ?_
      refine au ?_
      refine rn_draw (fun w' => Keep [] w4 w') [8] hMix ?_
      have hS : Keep [] w4 w4.drew := (Keep.refl _ _).drew
      generalize w4.drew = w5 at *
      refine tk 0 ?_
      refine tk 1 ?_
      refine tk 2 ?_
      refine tk 3 ?_
      refine tk 4 ?_
      refine dr_val 5 (.int .i64 v) rfl (by decide +kernel) rfl rfl (fun w9 hS9 => val_load1 hT rfl rfl rfl ((hS9.blk hX4 (by simp)).cell rfl)) hS ?_
      refine dr_op 6 rfl (by decide +kernel) rfl rfl (opTo_call (fst := []) (cap := []) rfl rfl rfl rfl (by decide +kernel) ((mcell_ret C (h4.keep0 hS) v).mono ?_))
      rintro r w6 ⟨rfl, hk6⟩
      have hS6 := hS.tr hk6
      refine ⟨fun _ => hS6, ?_⟩
      refine dr_any 7 _ rfl (by decide +kernel) rfl rfl (fun w => val_build _ rfl rfl (built_mi1 12 (cellOf vs v)) w) ?_
      refine dr_op 8 rfl (by decide +kernel) rfl rfl (opTo_call (fst := []) (cap := []) rfl rfl rfl rfl (by decide +kernel) ((madd_ret (⟨mv, h4.keep0 hS6⟩ : Mt w0 w6 b (L ++ E) vv bv) (12, cellOf vs v, 0, 0) (by simp only [List.length_append]; omega)).mono ?_))
      rintro r w7 ⟨rfl, h7, ho7⟩
      refine ⟨fun h => absurd (by simp) h, ?_⟩
      refine dr_done (by decide +kernel) ?_
      refine au ?_
      refine rn_end Tryz.func46 (.inr (.inl ⟨rfl, rfl⟩)) ⟨rfl, ?_, (ho04.tr (Mf.of0 hS6)).tr ho7⟩
      simpa [insS, lastI, fI, needF, hEdef] using h7
    refine nay ?_
    refine au ?_
    by_cases hop5 : op = 5
    · subst hop5
      refine ye ?_
      refine au ?_
      refine pl_val _ rfl rfl (val_load1 hT rfl rfl rfl (hX4.cell rfl)) ?_
      refine pl_op rfl rfl (opTo_call (fst := []) (cap := []) rfl rfl rfl rfl (by decide +kernel) ((mloop_ret C.hF ihs lb (by omega) hp6 L.length hb (⟨mv, h4⟩ : Mt w0 w4 b (L ++ E) vv bv) (by simp only [List.length_append]; omega)).mono ?_))
      rintro r w5 ⟨rfl, h5, ho5⟩
      refine au ?_
      refine rn_end Tryz.func46 (.inr (.inl ⟨rfl, rfl⟩)) ⟨rfl, ?_, ho04.tr ho5⟩
      have e9 : L ++ insS vs (.mk 5 v e f lb lo) L.length = whT L.length (L ++ E) (insSs vs lb ((L ++ E).length + 1)) := by
        rw [insS, if_pos rfl, hEdef, List.length_append]
        simp [whileI, whT, Nat.add_assoc, Nat.add_comm, Nat.add_left_comm]
      rw [e9]
      exact h5
    refine nay ?_
    refine au ?_
    by_cases hop6 : op = 6
    · subst hop6
      refine ye ?_
      refine au ?_
      refine pl_val _ rfl rfl (val_load1 hT rfl rfl rfl (hX4.cell rfl)) ?_
      refine au ?_
      refine pl_val _ rfl rfl (val_load1 hT rfl rfl rfl (hX4.cell rfl)) ?_
      refine pl_op rfl rfl (opTo_call (fst := []) (cap := []) rfl rfl rfl rfl (by decide +kernel) ((mchoice_ret C.hF ihs lb lo (by omega) hp6 hp7 hb ho (⟨mv, h4⟩ : Mt w0 w4 b (L ++ E) vv bv) (by simp only [List.length_append]; omega)).mono ?_))
      rintro r w5 ⟨rfl, h5, ho5⟩
      refine au ?_
      refine rn_end Tryz.func46 (.inr (.inl ⟨rfl, rfl⟩)) ⟨rfl, ?_, ho04.tr ho5⟩
      have e9 : L ++ insS vs (.mk 6 v e f lb lo) L.length = ifT (L ++ E) (insSs vs lb ((L ++ E).length + 1)) (insSs vs lo ((L ++ E).length + 1 + (insSs vs lb ((L ++ E).length + 1)).length + 1)) := by
        rw [insS, if_neg (by decide), if_pos rfl, hEdef, List.length_append]
        simp [ifI, ifT, Nat.add_assoc, Nat.add_comm, Nat.add_left_comm]
      rw [e9]
      exact h5
    refine nay ?_
    refine au ?_
    have hop7 : op = 7 := by omega
    subst hop7
    refine ye ?_
    refine au ?_
    refine pl_val _ rfl rfl (val_build _ rfl rfl (built_mi0 15) w4) ?_
    refine pl_op rfl rfl (opTo_call (fst := []) (cap := []) rfl rfl rfl rfl (by decide +kernel) ((madd_ret (⟨mv, h4⟩ : Mt w0 w4 b (L ++ E) vv bv) (15, 0, 0, 0) (by simp only [List.length_append]; omega)).mono ?_))
    rintro r w5 ⟨rfl, h5, ho5⟩
    refine au ?_
    refine rn_end Tryz.func46 (.inr (.inl ⟨rfl, rfl⟩)) ⟨rfl, ?_, ho04.tr ho5⟩
    simpa [insS, lastI, fI, needF, hEdef] using h5

theorem built_mk (av ab : Option Addr) (n1 n2 c1 c2 : Nat) : Tryz.prog.built tMk [(1, .agg #[.slice av n1 c1, .slice ab n2 c2])] = some [Value.slice none 0 0, .slice av n1 c1, .slice ab n2 c2].toArray := by kernel_rfl
theorem mkC : MkC := ⟨by
  intro F w x vs body hp hF hvl hsz
  have hp' := hp
  obtain ⟨vv, bv, rfl, hv, hb⟩ := hp'
  obtain ⟨av, capv, rfl⟩ := hv.form
  obtain ⟨ab, capb, rfl⟩ := hb.form
  refine ret_of 28 Tryz.func6 rfl rfl (by simp) ?_
  refine au ?_
  refine pl_op rfl rfl (opTo_boxN [.slice av vs.length capv, .slice ab body.length capb] rfl rfl rfl ?_)
  intro w1 x1 hx1 hs1 hk1 hX1
  refine au ?_
  refine pl_val (.agg #[.slice av vs.length capv, .slice ab body.length capb]) rfl rfl (val_load [.slice av vs.length capv, .slice ab body.length capb] hT rfl rfl rfl (hX1.range (by rfl))) ?_
  refine pl_op rfl rfl (opTo_call (fst := []) (cap := []) rfl rfl rfl rfl (by decide +kernel) ((check_ret (hp.keep hk1 hF.stays) (hF.keep hk1) hsz).mono ?_))
  rintro r w2 ⟨rfl, hk2⟩
  refine au ?_
  by_cases hc : progFault vs body = 0
  · refine nay ?_
    obtain ⟨hS1, hS2, hS3, _⟩ := prog_fit hc
    have hX2 := hk2.blk hX1 (by simp)
    refine au ?_
    refine pl_val (.agg #[.slice av vs.length capv, .slice ab body.length capb]) rfl rfl (val_load [.slice av vs.length capv, .slice ab body.length capb] hT rfl rfl rfl (hX2.range (by rfl))) ?_
    refine pl_val _ rfl rfl (val_build _ rfl rfl (built_mk av ab vs.length body.length capv capb) w2) ?_
    refine pl_op rfl rfl (opTo_boxN [.slice none 0 0, .slice av vs.length capv, .slice ab body.length capb] rfl rfl rfl ?_)
    intro w3 b hb3 hs3 hk3 hbk
    have hk03 := (hk1.tr hk2).tr hk3
    have C : Cx vs body F w (.slice av vs.length capv) (.slice ab body.length capb) := ⟨hp, hF, hS1⟩
    have h3 : Mt w w3 b [] (.slice av vs.length capv) (.slice ab body.length capb) := ⟨_, hk03, by have := (hk1.tr hk2).size; omega, hbk, RowI.nil _ _ _⟩
    refine au ?_
    refine pl_val _ rfl rfl (val_load1 hT rfl rfl rfl ((hk3.blk hX2 (by simp)).cell rfl)) ?_
    refine pl_op rfl rfl (opTo_call (fst := []) (cap := []) rfl rfl rfl rfl (by decide +kernel) ((mstmtsT (L' := insSs vs body 0) C.hF (mstmt_ret C (szSs body + 1)) body (by omega) hS3 0 hb h3 (by simp; omega) rfl rfl).mono ?_))
    rintro r w4 ⟨rfl, h4, ho4⟩
    have hl4 := insSs_len vs body 0
    refine au ?_
    refine pl_val _ rfl rfl (val_build _ rfl rfl (built_mi0 16) w4) ?_
    refine pl_op rfl rfl (opTo_call (fst := []) (cap := []) rfl rfl rfl rfl (by decide +kernel) ((madd_ret h4 haltI (by omega)).mono ?_))
    rintro r w5 ⟨rfl, ⟨mv, h5⟩, ho5⟩
    refine au ?_
    refine pl_val _ rfl rfl (val_load1 hT rfl rfl rfl (h5.bk.cell rfl)) ?_
    refine au ?_
    refine rn_ret Tryz.func6 (.inr (.inr (.inr (.inr ⟨_, _, _, _, rfl, rfl, rfl, rfl⟩)))) ⟨⟨mv, by rw [hc], ?_⟩, h5.kp⟩
    unfold makeOf
    rw [if_pos hc]
    exact h5.row.ins
  · refine ye ?_
    refine au ?_
    refine rn_ret Tryz.func6 (.inr (.inr (.inr (.inr ⟨_, _, _, _, rfl, rfl, rfl, rfl⟩)))) ⟨⟨_, rfl, ?_⟩, hk1.tr hk2⟩
    unfold makeOf
    rw [if_neg hc]
    exact InsV.nil⟩
end E
end Go.Proofs.YtdodmemljdhpnaeGreat

/- Programs, as an argument of a law is read, are such as the walks know. -/
namespace Go.Proofs.YtdodmemljdhpnaeGreat
set_option maxRecDepth 20000
set_option maxHeartbeats 4000000
namespace E
open Go.Proofs

/-- A program whose slice of statements is no longer than its capacity. -/
def CapB (x : Value) : Prop := ∃ vv a n c, x = .agg #[vv, .slice a n c] ∧ n ≤ c
section
variable {H : Type} {enc : TypeId × Value → H} {w : World} {base : Nat} {spare : Nat → Bool} {held : Bool}

theorem cInt : Tryz.prog.cellsOf 3 = 1 := by decide +kernel
theorem cLong : Tryz.prog.cellsOf 2 = 1 := by decide +kernel
theorem cStr : Tryz.prog.cellsOf 9 = 1 := by decide +kernel
theorem cLE : Tryz.prog.cellsOf 55 = 1 := by decide +kernel
theorem cLS : Tryz.prog.cellsOf 23 = 1 := by decide +kernel
theorem cLV : Tryz.prog.cellsOf 22 = 1 := by decide +kernel
theorem cE4 : Tryz.prog.cellsOf 57 = 4 := by decide +kernel
theorem cS12 : Tryz.prog.cellsOf 59 = 12 := by decide +kernel
theorem cV2 : Tryz.prog.cellsOf 54 = 2 := by decide +kernel
theorem cP2 : Tryz.prog.cellsOf 25 = 2 := by decide +kernel

theorem exprSplit : ExprSplit enc Tryz.prog w base spare held 3 2 55 57 := by
  intro fuel cs x h
  obtain ⟨xs, n, hn, _, hl, hlen, hf⟩ := DataW.trod_struct Tryz.underlying57 h
  rw [cE4] at hl
  obtain ⟨c0, c1, c2, c3, rfl⟩ := list4 hl
  have f0 : DataW.trod enc Tryz.prog w base spare held n 3 (([c0, c1, c2, c3].drop 0).take (Tryz.prog.cellsOf 3)) = xs[0]? := hf 0 _ rfl
  have f1 : DataW.trod enc Tryz.prog w base spare held n 3 (([c0, c1, c2, c3].drop 1).take (Tryz.prog.cellsOf 3)) = xs[1]? := hf 1 _ rfl
  have f2 : DataW.trod enc Tryz.prog w base spare held n 2 (([c0, c1, c2, c3].drop 2).take (Tryz.prog.cellsOf 2)) = xs[2]? := hf 2 _ rfl
  have f3 : DataW.trod enc Tryz.prog w base spare held n 55 (([c0, c1, c2, c3].drop 3).take (Tryz.prog.cellsOf 55)) = xs[3]? := hf 3 _ rfl
  have hx : ∀ i, i < 4 → ∃ y, xs[i]? = some y := fun i hi => ⟨xs[i]'(by rw [hlen]; exact hi), List.getElem?_eq_getElem _⟩
  obtain ⟨y0, e0⟩ := hx 0 (by decide)
  obtain ⟨y1, e1⟩ := hx 1 (by decide)
  obtain ⟨y2, e2⟩ := hx 2 (by decide)
  obtain ⟨y3, e3⟩ := hx 3 (by decide)
  rw [e0, cInt] at f0
  rw [e1, cInt] at f1
  rw [e2, cLong] at f2
  rw [e3, cLE] at f3
  exact ⟨n, c0, c1, c2, c3, hn, rfl, ⟨y0, f0⟩, ⟨y1, f1⟩, ⟨y2, f2⟩, ⟨y3, f3⟩⟩

theorem list12P {cs : List Value} (h : cs.length = 12) : ∃ a b c d e f g i j k l m, cs = [a, b, c, d, e, f, g, i, j, k, l, m] := by
  match cs, h with
  | [a, b, c, d, e, f, g, i, j, k, l, m], _ => exact ⟨a, b, c, d, e, f, g, i, j, k, l, m, rfl⟩

theorem stmtSplit : StmtSplit enc Tryz.prog w base spare held 3 57 23 59 := by
  intro fuel cs x h
  obtain ⟨xs, n, hn, _, hl, hlen, hf⟩ := DataW.trod_struct Tryz.underlying59 h
  rw [cS12] at hl
  obtain ⟨c0, c1, d0, d1, d2, d3, g0, g1, g2, g3, cb, co, rfl⟩ := list12P hl
  have f0 : DataW.trod enc Tryz.prog w base spare held n 3 (([c0, c1, d0, d1, d2, d3, g0, g1, g2, g3, cb, co].drop 0).take (Tryz.prog.cellsOf 3)) = xs[0]? := hf 0 _ rfl
  have f1 : DataW.trod enc Tryz.prog w base spare held n 3 (([c0, c1, d0, d1, d2, d3, g0, g1, g2, g3, cb, co].drop 1).take (Tryz.prog.cellsOf 3)) = xs[1]? := hf 1 _ rfl
  have f2 : DataW.trod enc Tryz.prog w base spare held n 57 (([c0, c1, d0, d1, d2, d3, g0, g1, g2, g3, cb, co].drop 2).take (Tryz.prog.cellsOf 57)) = xs[2]? := hf 2 _ rfl
  have f3 : DataW.trod enc Tryz.prog w base spare held n 57 (([c0, c1, d0, d1, d2, d3, g0, g1, g2, g3, cb, co].drop 6).take (Tryz.prog.cellsOf 57)) = xs[3]? := hf 3 _ rfl
  have f4 : DataW.trod enc Tryz.prog w base spare held n 23 (([c0, c1, d0, d1, d2, d3, g0, g1, g2, g3, cb, co].drop 10).take (Tryz.prog.cellsOf 23)) = xs[4]? := hf 4 _ rfl
  have f5 : DataW.trod enc Tryz.prog w base spare held n 23 (([c0, c1, d0, d1, d2, d3, g0, g1, g2, g3, cb, co].drop 11).take (Tryz.prog.cellsOf 23)) = xs[5]? := hf 5 _ rfl
  have hx : ∀ i, i < 6 → ∃ y, xs[i]? = some y := fun i hi => ⟨xs[i]'(by rw [hlen]; exact hi), List.getElem?_eq_getElem _⟩
  obtain ⟨y0, e0⟩ := hx 0 (by decide)
  obtain ⟨y1, e1⟩ := hx 1 (by decide)
  obtain ⟨y2, e2⟩ := hx 2 (by decide)
  obtain ⟨y3, e3⟩ := hx 3 (by decide)
  obtain ⟨y4, e4⟩ := hx 4 (by decide)
  obtain ⟨y5, e5⟩ := hx 5 (by decide)
  rw [e0, cInt] at f0
  rw [e1, cInt] at f1
  rw [e2, cE4] at f2
  rw [e3, cE4] at f3
  rw [e4, cLS] at f4
  rw [e5, cLS] at f5
  exact ⟨n, c0, c1, [d0, d1, d2, d3], [g0, g1, g2, g3], cb, co, hn, rfl, ⟨y0, f0⟩, ⟨y1, f1⟩, ⟨y2, f2⟩, ⟨y3, f3⟩, ⟨y4, f4⟩, ⟨y5, f5⟩⟩

theorem varSplit : VarSplit enc Tryz.prog w base spare held 9 3 54 := by
  intro fuel cs x h
  obtain ⟨xs, n, hn, _, hl, hlen, hf⟩ := DataW.trod_struct Tryz.underlying54 h
  rw [cV2] at hl
  match cs, hl with
  | [c0, c1], _ =>
    have f0 : DataW.trod enc Tryz.prog w base spare held n 9 (([c0, c1].drop 0).take (Tryz.prog.cellsOf 9)) = xs[0]? := hf 0 _ rfl
    have f1 : DataW.trod enc Tryz.prog w base spare held n 3 (([c0, c1].drop 1).take (Tryz.prog.cellsOf 3)) = xs[1]? := hf 1 _ rfl
    have hx : ∀ i, i < 2 → ∃ y, xs[i]? = some y := fun i hi => ⟨xs[i]'(by rw [hlen]; exact hi), List.getElem?_eq_getElem _⟩
    obtain ⟨y0, e0⟩ := hx 0 (by decide)
    obtain ⟨y1, e1⟩ := hx 1 (by decide)
    rw [e0, cStr] at f0
    rw [e1, cInt] at f1
    exact ⟨n, c0, c1, hn, rfl, ⟨y0, f0⟩, ⟨y1, f1⟩⟩

theorem prog_ofC {cs : Array Value} {d : DataW H} {ps : List MemPlace} (h : DataW.Trod enc Tryz.prog w base spare held 25 (.agg cs) d ps) : ∃ vs body, ProgV (fun b => b < w.heap.size) w (.agg cs) vs body ∧ CapB (.agg cs) := by
  obtain ⟨fuel, hf0⟩ := h
  obtain ⟨xs, n, _, _, hl, hlen, hf⟩ := DataW.trod_struct Tryz.underlying25 hf0
  rw [cP2] at hl
  have hl' : cs.toList.length = 2 := hl
  obtain ⟨c0, c1, hcs⟩ : ∃ c0 c1, cs.toList = [c0, c1] := by
    match cs.toList, hl' with
    | [c0, c1], _ => exact ⟨c0, c1, rfl⟩
  have f0 : DataW.trod enc Tryz.prog w base spare held n 22 ((cs.toList.drop 0).take (Tryz.prog.cellsOf 22)) = xs[0]? := hf 0 _ rfl
  have f1 : DataW.trod enc Tryz.prog w base spare held n 23 ((cs.toList.drop 1).take (Tryz.prog.cellsOf 23)) = xs[1]? := hf 1 _ rfl
  have hx : ∀ i, i < 2 → ∃ y, xs[i]? = some y := fun i hi => ⟨xs[i]'(by rw [hlen]; exact hi), List.getElem?_eq_getElem _⟩
  obtain ⟨y0, e0⟩ := hx 0 (by decide)
  obtain ⟨y1, e1⟩ := hx 1 (by decide)
  rw [e0, cLV, hcs] at f0
  rw [e1, cLS, hcs] at f1
  obtain ⟨vv, vs, hvv, hV⟩ := trod_vars Tryz.underlying9 Tryz.underlying3 Tryz.underlying22 cV2 varSplit f0
  obtain ⟨a, cap, L, cc, hc, hr, hq, hcap⟩ := open_rows (Q := StmtV (fun b => b < w.heap.size) w) 12 (by decide) Tryz.underlying23 cS12 (fun m _ cs x h => trod_stmt Tryz.underlying3 Tryz.underlying2 Tryz.underlying55 cE4 exprSplit Tryz.underlying23 cS12 stmtSplit m cs x h) f1
  simp at hvv hc
  subst hvv
  subst hc
  have hagg : Value.agg cs = .agg #[c0, .slice a L.length cap] := by
    congr 1
    apply Array.ext'
    rw [hcs]
  exact ⟨vs, L, ⟨c0, .slice a L.length cap, hagg, hV, a, cap, cc, rfl, hr, hq⟩, c0, a, L.length, cap, hagg, hcap⟩
theorem prog_of {cs : Array Value} {d : DataW H} {ps : List MemPlace} (h : DataW.Trod enc Tryz.prog w base spare held 25 (.agg cs) d ps) : ∃ vs body, ProgV (fun b => b < w.heap.size) w (.agg cs) vs body :=
  let ⟨vs, body, h, _⟩ := prog_ofC h
  ⟨vs, body, h⟩
end
end E
end Go.Proofs.YtdodmemljdhpnaeGreat

/- Lists of numbers, as an argument of a law is read. -/
namespace Go.Proofs.YtdodmemljdhpnaeGreat
set_option maxRecDepth 20000
set_option maxHeartbeats 4000000
namespace E
open Go.Proofs

/-- A number of 64 bits. -/
abbrev Lg64 : Type := Int
theorem int_lt {n : Int} (h : (Lit.int .i64 n).wf = true) : n < 9223372036854775808 := by
  simp only [Lit.wf, Bool.and_eq_true, decide_eq_true_eq] at h
  have h2 : n ≤ 9223372036854775807 := h.2
  omega
def ArgI (_ : Nat) (w : World) (v : Value) (l : List Int) : Prop := InpV w v l
theorem flat_lgs (l : List Int) : l.flatMap (fun n => [Value.int .i64 n]) = lgs l := by
  induction l with
  | nil => rfl
  | cons x r ih => rw [List.flatMap_cons, ih]; rfl
theorem argI_of {H : Type} {enc : TypeId × Value → H} {w : World} {v : Value} {d : DataW H} {ps : List MemPlace} (h : DataW.Trod enc Tryz.prog w 0 (fun _ => true) true 26 v d ps) (hv : v.cells = #[v]) : ∃ l, ArgI w.heap.size w v l := by
  obtain ⟨fuel, hf⟩ := h
  obtain ⟨a, cap, L, hcs, hr, _⟩ := open_list (fun n : Int => [Value.int .i64 n]) (fun _ => True) 1 (by decide) Tryz.underlying26 (by decide +kernel) (fun s _ => rfl) (fun n cs x h => by
    obtain ⟨z, hz, _⟩ := trod_int1 Tryz.underlying2 h
    exact ⟨z, hz, trivial⟩) hf
  rw [hv] at hcs
  simp at hcs
  refine ⟨L, a, cap, hcs, fun h0 => ?_⟩
  obtain ⟨b, q, h1, h2, h3⟩ := hr (by intro e; rw [e] at h0; simp at h0)
  rw [flat_lgs] at h3
  exact ⟨b, q, h1, h2, h3⟩
end E
end Go.Proofs.YtdodmemljdhpnaeGreat
