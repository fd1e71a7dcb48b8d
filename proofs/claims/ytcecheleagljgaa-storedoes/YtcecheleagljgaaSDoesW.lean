/- The walk of StoreDoes: whatever the steps, it returns true, and turns nothing that was there. -/
import Derived.Test.YtcecheleagljgaaVauC
namespace Go.Proofs.Ytcecheleagljgaa
set_option maxRecDepth 20000
namespace E
open Go.Proofs

theorem built_vault : Try.prog.built 50 [] = some (vcells 0 (fun _ => z8) false (fun _ => z8)).toArray := by kernel_rfl
theorem zero_step : ((Try.prog.info? 55).bind (·.zero)).map (·.cells) = some (tcell ⟨0, 0, .slice none 0 0, [], 0⟩).toArray := by kernel_rfl
theorem tcell_one {s : SStep} (h : s.pv.oneCell' = true) : ∀ u ∈ tcell s, u.oneCell' = true := by
  intro u hu
  simp only [tcell, List.mem_cons, List.not_mem_nil, or_false] at hu
  rcases hu with rfl | rfl | rfl | rfl
  · rfl
  · rfl
  · exact h
  · rfl

/-- A store and the document's, side by side. -/
structure Pair (w0 w : World) (d vb s : Nat) (S : List Int) (wv : Value) (P X : Nat → List Int) (n : Nat) : Prop where
  keep : Keep [] w0 w
  disk : DiskV d w d S [] wv
  store : StoreV w s d
  good : Good S
  gen : genS S ≤ n
  vault : Blk w vb (vcells (genS S) P false X) 50
  fP : Full P
  fX : Full X
  read : ∀ i, i < 14 → readS S (i : Nat) = P i

theorem Pair.ext {w0 w w' : World} {d vb s : Nat} {S : List Int} {wv : Value} {P X : Nat → List Int} {n : Nat} (h : Pair w0 w d vb s S wv P X n) (hk : Keep [] w w') : Pair w0 w' d vb s S wv P X n :=
  ⟨h.keep.tr0 hk, h.disk.keep hk (by simp), hk.blk h.store (by simp), h.good, h.gen, hk.blk h.vault (by simp), h.fP, h.fX, h.read⟩
theorem Pair.up {w0 w : World} {d vb s : Nat} {S : List Int} {wv : Value} {P X : Nat → List Int} {n m : Nat} (h : Pair w0 w d vb s S wv P X n) (hm : n ≤ m) : Pair w0 w d vb s S wv P X m :=
  ⟨h.keep, h.disk, h.store, h.good, by have := h.gen; omega, h.vault, h.fP, h.fX, h.read⟩

theorem New.newP {S S' : List Int} {ps : List Pg} {P : Nat → List Int} (h : New S ps S') (hc : chk ps = 0) (hr : ∀ i, i < 14 → readS S (i : Nat) = P i) : ∀ i, i < 14 → readS S' (i : Nat) = E.newP ps P i := fun i hi => by
  rw [h.look hc, E.newP, hr i hi]

set_option maxHeartbeats 1600000 in
theorem sdoes_law {w : World} {lv : Value} {st : List SStep} (hst : ArgT w.heap.size w lv st) :
    Ret Try.prog 6 [lv] w fun v w' => v = .bool true ∧ Keep [] w w' := by
  refine ret_of 106 Try.func6 rfl rfl (by simp) ?_
  obtain ⟨la, lcap, hlv⟩ := hst.form
  repeat (first | refine pl_pure hT rfl rfl rfl ?_ | refine pl_nil ?_ | refine rn_seq ?_ | refine rn_plain ?_ | refine rn_block ?_ | refine rn_inBlock ?_ | refine rn_skip ?_ | refine rn_true rfl ?_ | refine rn_false rfl ?_ | refine rn_exit rfl ?_ | refine pl_not rfl rfl ?_)
  refine pl_op rfl rfl (opTo_call rfl rfl rfl rfl (by decide +kernel) ((storeBegun_ret w).mono ?_))
  rintro v w1 ⟨rfl, hk1⟩
  repeat (first | refine pl_pure hT rfl rfl rfl ?_ | refine pl_nil ?_ | refine rn_seq ?_ | refine rn_plain ?_ | refine rn_block ?_ | refine rn_inBlock ?_ | refine rn_skip ?_ | refine rn_true rfl ?_ | refine rn_false rfl ?_ | refine rn_exit rfl ?_ | refine pl_not rfl rfl ?_)
  refine pl_op rfl rfl (opTo_call rfl rfl rfl rfl (by decide +kernel) ((great_ret (hst.keep hk1 (by simp))).mono ?_))
  rintro v w1' ⟨rfl, b, rfl, hsm⟩
  cases b with
  | true =>
    repeat (first | refine pl_pure hT rfl rfl rfl ?_ | refine pl_nil ?_ | refine rn_seq ?_ | refine rn_plain ?_ | refine rn_block ?_ | refine rn_inBlock ?_ | refine rn_skip ?_ | refine rn_true rfl ?_ | refine rn_false rfl ?_ | refine rn_exit rfl ?_ | refine pl_not rfl rfl ?_)
    exact rn_ret Try.func6 (.inl ⟨_, rfl, rfl⟩) ⟨rfl, hk1⟩
  | false =>
  obtain ⟨h60, h30⟩ := hsm rfl
  clear hsm
  repeat (first | refine pl_pure hT rfl rfl rfl ?_ | refine pl_nil ?_ | refine rn_seq ?_ | refine rn_plain ?_ | refine rn_block ?_ | refine rn_inBlock ?_ | refine rn_skip ?_ | refine rn_true rfl ?_ | refine rn_false rfl ?_ | refine rn_exit rfl ?_ | refine pl_not rfl rfl ?_)
  refine pl_op rfl rfl (opTo_call rfl rfl rfl rfl (by decide +kernel) ((new_ret w1').mono ?_))
  rintro v w2 ⟨rfl, h2, hk2⟩
  have hB : w.heap.size ≤ w1'.heap.size := hk1.size
  have hk2 := hk1.tr0 hk2
  generalize w1'.heap.size = d at *
  clear hk1
  refine pl_val _ rfl rfl (val_build _ rfl rfl built_vault w2) ?_
  refine pl_op rfl rfl (opTo_box _ rfl rfl rfl ?_)
  have hk3 : Keep [] w2 (w2.alloc (.cells (vcells 0 (fun _ => z8) false (fun _ => z8)).toArray 50)) := (Keep.refl _ _).alloc _
  have hv3 := Blk.new w2 (vcells 0 (fun _ => z8) false (fun _ => z8)) 50
  generalize (w2.alloc (.cells (vcells 0 (fun _ => z8) false (fun _ => z8)).toArray 50)) = w3 at *
  have h3 := h2.keep hk3 (by simp)
  have hvle : w.heap.size ≤ w2.heap.size := hk2.size
  have hk3 := hk2.tr0 hk3
  generalize w2.heap.size = vb at *
  clear h2 hk2
  repeat (first | refine pl_pure hT rfl rfl rfl ?_ | refine pl_nil ?_ | refine rn_seq ?_ | refine rn_plain ?_ | refine rn_block ?_ | refine rn_inBlock ?_ | refine rn_skip ?_ | refine rn_true rfl ?_ | refine rn_false rfl ?_ | refine rn_exit rfl ?_ | refine pl_not rfl rfl ?_)
  refine pl_op rfl rfl (opTo_call rfl rfl rfl rfl (by decide +kernel) ((open_ret d w3).mono ?_))
  rintro v w4 ⟨rfl, hs4, hk4⟩
  have hz : Full fun _ : Nat => z8 := fun _ => rfl
  have hp4 : Pair w w4 d vb w3.heap.size S0 (.slice none 0 0) (fun _ => z8) (fun _ => z8) 0 :=
    ⟨hk3.tr0 hk4, h3.keep hk4 (by simp), hs4, good0, by rw [genS0]; decide, by rw [genS0]; exact hk4.blk hv3 (by simp), hz, hz, fun i _ => read0 _⟩
  generalize w3.heap.size = s at *
  clear hk3 h3 hv3 hs4 hk4
  repeat (first | refine pl_pure hT rfl rfl rfl ?_ | refine pl_nil ?_ | refine rn_seq ?_ | refine rn_plain ?_ | refine rn_block ?_ | refine rn_inBlock ?_ | refine rn_skip ?_ | refine rn_true rfl ?_ | refine rn_false rfl ?_ | refine rn_exit rfl ?_ | refine pl_not rfl rfl ?_)
  refine rn_ind (fun q σ w' => ∃ j s S wv P X, q = st.length - j ∧ j ≤ st.length ∧ σ = [(0, lv), (3, .pointer (some ⟨d, 0, none⟩)), (4, .pointer (some ⟨vb, 0, none⟩)), (5, .pointer (some ⟨s, 0, none⟩)), (6, .int .i64 (j : Nat))] ∧ Pair w w' d vb s S wv P X j)
    (st.length - 0) _ ?_ ⟨0, s, _, _, _, _, rfl, Nat.zero_le _, rfl, hp4⟩ ?_
  · exact ⟨rfl, rfl, rfl, rfl, rfl, trivial⟩
  clear hp4
  clear s
  rintro q σ w5 ih ⟨j, s, S, wv, P, X, hq, hj, rfl, hP5⟩
  repeat (first | refine pl_pure hT rfl rfl rfl ?_ | refine pl_nil ?_ | refine rn_seq ?_ | refine rn_plain ?_ | refine rn_block ?_ | refine rn_inBlock ?_ | refine rn_skip ?_ | refine rn_true rfl ?_ | refine rn_false rfl ?_ | refine rn_exit rfl ?_ | refine pl_not rfl rfl ?_)
  refine pl_val (.int .i64 st.length) rfl rfl (val_pure hT (by rw [hlv]; rfl) w5) ?_
  rcases Nat.lt_or_ge j st.length with hlt | hge
  case inr =>
    refine pl_val (.bool false) rfl rfl (val_int .i64 _ _ _ rfl rfl rfl (by simp [intOp]; omega) w5) ?_
    repeat (first | refine pl_pure hT rfl rfl rfl ?_ | refine pl_nil ?_ | refine rn_seq ?_ | refine rn_plain ?_ | refine rn_block ?_ | refine rn_inBlock ?_ | refine rn_skip ?_ | refine rn_true rfl ?_ | refine rn_false rfl ?_ | refine rn_exit rfl ?_ | refine pl_not rfl rfl ?_)
    exact rn_ret Try.func6 (.inl ⟨_, rfl, rfl⟩) ⟨rfl, hP5.keep⟩
  refine pl_val (.bool true) rfl rfl (val_int .i64 _ _ _ rfl rfl rfl (by simp [intOp]; omega) w5) ?_
  obtain ⟨t, ht⟩ : ∃ t, st[j]? = some t := ⟨_, List.getElem?_eq_getElem hlt⟩
  have htm := List.mem_of_getElem? ht
  have ht30 := h30 t htm
  obtain ⟨b, o, cap, hlv', hb, hrr⟩ := (hst.keep hP5.keep (by simp)).at ht
  obtain ⟨pa, pcap, hpv⟩ := (hst.pgs t htm).form
  have hp1 : t.pv.oneCell' = true := by rw [hpv]; rfl
  repeat (first | refine pl_pure hT rfl rfl rfl ?_ | refine pl_nil ?_ | refine rn_seq ?_ | refine rn_plain ?_ | refine rn_block ?_ | refine rn_inBlock ?_ | refine rn_skip ?_ | refine rn_true rfl ?_ | refine rn_false rfl ?_ | refine rn_exit rfl ?_ | refine pl_not rfl rfl ?_)
  refine pl_val _ rfl rfl (val_index j hT rfl (by rw [hlv']; rfl) rfl rfl rfl hlt w5) ?_
  refine pl_val (.agg (tcell t).toArray) rfl rfl (val_load _ hT rfl rfl rfl hrr) ?_
  refine pl_op rfl rfl (opTo_alloc _ rfl zero_step ?_)
  have hk6 : Keep [] w5 (w5.alloc (.cells (tcell ⟨0, 0, .slice none 0 0, [], 0⟩).toArray 55)) := (Keep.refl _ _).alloc _
  have hy6 := Blk.new w5 (tcell ⟨0, 0, .slice none 0 0, [], 0⟩) 55
  generalize (w5.alloc (.cells (tcell ⟨0, 0, .slice none 0 0, [], 0⟩).toArray 55)) = w6 at *
  repeat (first | refine pl_pure hT rfl rfl rfl ?_ | refine pl_nil ?_ | refine rn_seq ?_ | refine rn_plain ?_ | refine rn_block ?_ | refine rn_inBlock ?_ | refine rn_skip ?_ | refine rn_true rfl ?_ | refine rn_false rfl ?_ | refine rn_exit rfl ?_ | refine pl_not rfl rfl ?_)
  refine pl_op rfl rfl (opTo_store (tcell t) rfl rfl rfl rfl (by kernel_rfl) hy6 (by simp [tcell]) (tcell_one hp1) ?_)
  rw [splice_all (show (tcell t).length = (tcell ⟨0, 0, .slice none 0 0, [], 0⟩).length from rfl)]
  have hk7 := hk6.setRow w5.heap.size (tcell t).toArray (.inr (Nat.le_refl _))
  have hy7 := hy6.set (tcell t)
  generalize (w6.setRow w5.heap.size (tcell t).toArray) = w7 at *
  have hP7 := hP5.ext hk7
  generalize w5.heap.size = y at *
  clear hk6 hy6 hk7 hP5 hrr
  repeat (first | refine pl_pure hT rfl rfl rfl ?_ | refine pl_nil ?_ | refine rn_inBlock ?_ | refine rn_skip ?_ | refine rn_true rfl ?_ | refine rn_false rfl ?_ | refine rn_exit rfl ?_)
  refine rn_seq ?_
  refine rn_with (fun σ w' => ∃ s S wv P X, σ = [(0, lv), (3, .pointer (some ⟨d, 0, none⟩)), (4, .pointer (some ⟨vb, 0, none⟩)), (5, .pointer (some ⟨s, 0, none⟩)), (6, .int .i64 (j : Nat))] ∧ Pair w w' d vb s S wv P X (j + 1)) ?_ ?_
  · clear hP7 hy7
    rintro σ w8 ⟨s, S, wv, P, X, rfl, hP8⟩
    repeat (first | refine pl_pure hT rfl rfl rfl ?_ | refine pl_nil ?_ | refine rn_seq ?_ | refine rn_plain ?_ | refine rn_block ?_ | refine rn_inBlock ?_ | refine rn_skip ?_ | refine rn_true rfl ?_ | refine rn_false rfl ?_ | refine rn_exit rfl ?_ | refine pl_not rfl rfl ?_)
    refine pl_op rfl rfl (opTo_call rfl rfl rfl rfl (by decide +kernel) ((same_ret hP8.store hP8.disk hP8.vault hP8.fP hP8.read).mono ?_))
    rintro v w9 ⟨rfl, hk9⟩
    repeat (first | refine pl_pure hT rfl rfl rfl ?_ | refine pl_nil ?_ | refine rn_seq ?_ | refine rn_plain ?_ | refine rn_block ?_ | refine rn_inBlock ?_ | refine rn_skip ?_ | refine rn_true rfl ?_ | refine rn_false rfl ?_ | refine rn_exit rfl ?_ | refine pl_not rfl rfl ?_)
    refine pl_val (.int .i64 ((j + 1 : Nat) : Int)) rfl rfl (val_int .i64 j 1 _ rfl rfl rfl (by simp only [intOp]; rw [wrap_i64 (by omega) (by omega)]; rfl) w9) ?_
    repeat (first | refine pl_pure hT rfl rfl rfl ?_ | refine pl_nil ?_ | refine rn_seq ?_ | refine rn_plain ?_ | refine rn_block ?_ | refine rn_inBlock ?_ | refine rn_skip ?_ | refine rn_true rfl ?_ | refine rn_false rfl ?_ | refine rn_exit rfl ?_ | refine pl_not rfl rfl ?_)
    refine rn_sub ?_ (ih (st.length - (j + 1)) _ w9 (by omega) ⟨j + 1, s, S, wv, P, X, rfl, hlt, rfl, hP8.ext hk9⟩)
    exact ⟨rfl, rfl, rfl, rfl, rfl, trivial⟩
  intro hjoin
  clear ih
  have hg0 := genS_nonneg S
  have hgj := hP7.gen
  have hG := hP7.good
  refine rn_seq ?_
  refine rn_plain ?_
  refine pl_pure hT rfl rfl rfl ?_
  refine pl_val (.int .i64 t.d) rfl rfl (val_load1 hT rfl rfl rfl (hy7.cell rfl)) ?_
  refine pl_nil ?_
  refine rn_block ?_
  refine rn_seq ?_
  refine rn_plain ?_
  by_cases hd0 : t.d = 0
  · refine pl_val (.bool true) rfl rfl (val_int .i64 _ 0 _ rfl rfl rfl (by simp [intOp, hd0]) w7) ?_
    refine pl_pure hT rfl rfl rfl ?_
    refine pl_nil ?_
    refine rn_true rfl ?_
    refine rn_seq ?_
    refine rn_seq ?_
    have hpg : ∀ {w'}, Keep [] w w' → Pgs w.heap.size w' t.pv t.ps := fun hk => (hst.keep hk (by simp)).pgs t htm
    have hk0 : Keep [] w7 w7.drew := (Keep.refl _ _).drew
    refine rn_draw (fun w' => Keep [] w7 w') [] hMix ?_
    refine dr_pure 0 hT rfl (by decide +kernel) rfl rfl rfl ?_
    refine dr_val 1 t.pv rfl (by decide +kernel) rfl rfl (fun w' hk => val_load1 hT rfl rfl rfl ((hk.blk hy7 (by simp)).cell rfl)) hk0 ?_
    refine dr_pure 3 hT rfl (by decide +kernel) rfl rfl rfl ?_
    refine dr_val 4 t.pv rfl (by decide +kernel) rfl rfl (fun w' hk => val_load1 hT rfl rfl rfl ((hk.blk hy7 (by simp)).cell rfl)) hk0 ?_
    refine dr_op 2 rfl (by decide +kernel) rfl rfl (opTo_call rfl rfl rfl rfl (by decide +kernel) ((check_ret (hpg (hP7.keep.tr0 hk0)) (by omega)).mono ?_))
    rintro v w8 ⟨rfl, hk8⟩
    have hk8 := hk0.tr0 hk8
    refine ⟨fun _ => hk8, ?_⟩
    refine dr_op 5 rfl (by decide +kernel) rfl rfl (opTo_call rfl rfl rfl rfl (by decide +kernel) ((pagesOf_ret (hpg (hP7.keep.tr0 hk8)) (by omega)).mono ?_))
    rintro rv w9 ⟨hrv, hk9⟩
    have hk9 := hk8.tr0 hk9
    refine ⟨fun _ => hk9, ?_⟩
    refine dr_op 6 rfl (by decide +kernel) rfl rfl (opTo_call rfl rfl rfl rfl (by decide +kernel) ((fault_ret hrv (by omega)).mono ?_))
    rintro v w10 ⟨rfl, hk10⟩
    have hk10 := hk9.tr0 hk10
    refine ⟨fun _ => hk10, ?_⟩
    refine dr_any 7 (.bool false) rfl (by decide +kernel) rfl rfl (fun w' => val_int .i64 _ _ _ rfl rfl rfl (by simp [intOp]) w') ?_
    refine dr_done (by decide +kernel) ?_
    have hP10 := hP7.ext hk10
    have hy10 := hk10.blk hy7 (by simp)
    clear hP7 hy7 hk8 hk9 hk10 hrv hk0
    refine rn_false rfl ?_
    refine rn_skip ?_
    refine rn_seq ?_
    refine rn_plain ?_
    repeat (first | refine pl_pure hT rfl rfl rfl ?_)
    refine pl_val t.pv rfl rfl (val_load1 hT rfl rfl rfl (hy10.cell rfl)) ?_
    refine pl_pure hT rfl rfl rfl ?_
    refine pl_val (.int .i64 t.k) rfl rfl (val_load1 hT rfl rfl rfl (hy10.cell rfl)) ?_
    by_cases hc : chk t.ps = 0
    case neg =>
      refine pl_op rfl rfl (opTo_call rfl rfl rfl rfl (by decide +kernel) ((commit_bad (hpg hP10.keep) (by omega) t.k hc).mono ?_))
      rintro v w11 ⟨rfl, hk11⟩
      have hP11 := hP10.ext hk11
      have hy11 := hk11.blk hy10 (by simp)
      repeat (first | refine pl_pure hT rfl rfl rfl ?_ | refine pl_nil ?_)
      refine rn_seq ?_
      have hk0 : Keep [] w11 w11.drew := (Keep.refl _ _).drew
      refine rn_draw (fun w' => Keep [] w11 w') [] hMix ?_
      refine dr_pure 0 hT rfl (by decide +kernel) rfl rfl rfl ?_
      refine dr_pure 1 hT rfl (by decide +kernel) rfl rfl rfl ?_
      refine dr_val 2 t.pv rfl (by decide +kernel) rfl rfl (fun w' hk => val_load1 hT rfl rfl rfl ((hk.blk hy11 (by simp)).cell rfl)) hk0 ?_
      refine dr_pure 4 hT rfl (by decide +kernel) rfl rfl rfl ?_
      refine dr_val 5 (.int .i64 t.k) rfl (by decide +kernel) rfl rfl (fun w' hk => val_load1 hT rfl rfl rfl ((hk.blk hy11 (by simp)).cell rfl)) hk0 ?_
      refine dr_op 3 rfl (by decide +kernel) rfl rfl (opTo_call rfl rfl rfl rfl (by decide +kernel) ((pagesOf_ret (hpg (hP11.keep.tr0 hk0)) (by omega)).mono ?_))
      rintro rv w12 ⟨hrv, hk12⟩
      have hk12 := hk0.tr0 hk12
      refine ⟨fun _ => hk12, ?_⟩
      refine dr_op 6 rfl (by decide +kernel) rfl rfl (opTo_call rfl rfl rfl rfl (by decide +kernel) ((vcommit_bad (vb := vb) hrv (by omega) t.k hc).mono ?_))
      rintro v w13 ⟨rfl, hk13⟩
      have hk13 := hk12.tr0 hk13
      refine ⟨fun _ => hk13, ?_⟩
      refine dr_pure 7 hT rfl (by decide +kernel) rfl rfl rfl ?_
      refine dr_pure 8 hT rfl (by decide +kernel) rfl rfl rfl ?_
      refine dr_pure 9 hT rfl (by decide +kernel) rfl rfl rfl ?_
      refine dr_pure 10 hT rfl (by decide +kernel) rfl rfl rfl ?_
      refine dr_pure 11 hT rfl (by decide +kernel) rfl rfl rfl ?_
      refine dr_done (by decide +kernel) ?_
      have hP13 := hP11.ext hk13
      repeat (first | refine pl_pure hT rfl rfl rfl ?_ | refine pl_nil ?_ | refine rn_seq ?_ | refine rn_plain ?_ | refine rn_block ?_ | refine rn_inBlock ?_ | refine rn_skip ?_ | refine rn_true rfl ?_ | refine rn_false rfl ?_ | refine rn_exit rfl ?_ | refine pl_not rfl rfl ?_)
      refine pl_val (.bool false) rfl rfl (val_neBool false false _ (by decide +kernel) rfl rfl rfl rfl w13) ?_
      repeat (first | refine pl_pure hT rfl rfl rfl ?_ | refine pl_nil ?_ | refine rn_seq ?_ | refine rn_plain ?_ | refine rn_block ?_ | refine rn_inBlock ?_ | refine rn_skip ?_ | refine rn_true rfl ?_ | refine rn_false rfl ?_ | refine rn_exit rfl ?_ | refine pl_not rfl rfl ?_)
      refine pl_val (.bool false) rfl rfl (val_int .i64 _ _ _ rfl rfl rfl (by simp [intOp]) w13) ?_
      repeat (first | refine pl_pure hT rfl rfl rfl ?_ | refine pl_nil ?_ | refine rn_seq ?_ | refine rn_plain ?_ | refine rn_block ?_ | refine rn_inBlock ?_ | refine rn_skip ?_ | refine rn_true rfl ?_ | refine rn_false rfl ?_ | refine rn_exit rfl ?_ | refine pl_not rfl rfl ?_)
      refine pl_val (.bool false) rfl rfl (val_int .i64 _ 0 _ rfl rfl rfl (by simp [intOp, hc]) w13) ?_
      repeat (first | refine pl_pure hT rfl rfl rfl ?_ | refine pl_nil ?_ | refine rn_inBlock ?_ | refine rn_skip ?_ | refine rn_true rfl ?_ | refine rn_false rfl ?_ | refine rn_exit rfl ?_)
      repeat (first | refine pl_pure hT rfl rfl rfl ?_ | refine pl_not rfl rfl ?_ | refine pl_nil ?_ | refine rn_false rfl ?_ | refine rn_skip ?_ | refine rn_inBlock ?_)
      refine rn_sub ?_ (hjoin _ w13 ⟨s, S, wv, P, X, rfl, hP13.up (by omega)⟩)
      exact ⟨rfl, rfl, rfl, rfl, rfl, trivial⟩
    obtain ⟨⟨S2, hS2, hN2⟩, htorn⟩ := commit_view hG hc (hst.pgs t htm).wf
    generalize hm : (if t.k < 0 ∨ t.k ≥ (t.ps.length + 5 : Nat) then t.ps.length + 5 else t.k.toNat) = m
    refine pl_op rfl rfl (opTo_call rfl rfl rfl rfl (by decide +kernel) ((commit_ret hP10.store hP10.disk (hpg hP10.keep) (by omega) (by decide) hg0 (by omega) t.k hc m hm.symm).mono ?_))
    rintro v w11 ⟨rfl, wv11, h11, hk11, hf11⟩
    have hs11 : StoreV w11 s d := hk11.blk hP10.store (not_fp hP10.disk hP10.store (by decide))
    have hy11 := hk11.blk hy10 (not_fp hP10.disk hy10 (by decide))
    have hv11 := hk11.blk hP10.vault (not_fp hP10.disk hP10.vault (by decide))
    have hkw11 : Keep [] w w11 := hP10.keep.trans hk11 fun k hk => .inr (Nat.le_trans hB (hP10.disk.lt k hk).1)
    have hfP := hP10.fP
    have hfX := hP10.fX
    have hrd := hP10.read
    clear hk11 hP10 hy10
    repeat (first | refine pl_pure hT rfl rfl rfl ?_ | refine pl_nil ?_)
    refine rn_seq ?_
    have hS0 : Blk w11.drew y (tcell t) 55 := hy11
    have hk0 : Keep [] w11 w11.drew := (Keep.refl _ _).drew
    refine rn_draw (fun w' => Blk w' y (tcell t) 55) [] hMix ?_
    refine dr_pure 0 hT rfl (by decide +kernel) rfl rfl rfl ?_
    refine dr_pure 1 hT rfl (by decide +kernel) rfl rfl rfl ?_
    refine dr_val 2 t.pv rfl (by decide +kernel) rfl rfl (fun w' hk => val_load1 hT rfl rfl rfl (hk.cell rfl)) hS0 ?_
    refine dr_pure 4 hT rfl (by decide +kernel) rfl rfl rfl ?_
    refine dr_val 5 (.int .i64 t.k) rfl (by decide +kernel) rfl rfl (fun w' hk => val_load1 hT rfl rfl rfl (hk.cell rfl)) hS0 ?_
    refine dr_op 3 rfl (by decide +kernel) rfl rfl (opTo_call rfl rfl rfl rfl (by decide +kernel) ((pagesOf_ret (hpg (hkw11.tr0 hk0)) (by omega)).mono ?_))
    rintro rv w12 ⟨hrv, hk12⟩
    have hk12 := hk0.tr0 hk12
    have hy12 := hk12.blk hy11 (by simp)
    refine ⟨fun _ => hy12, ?_⟩
    have hv12 := hk12.blk hv11 (by simp)
    have hd12 := h11.keep hk12 (by simp)
    have hs12 : StoreV w12 s d := hk12.blk hs11 (by simp)
    have hkw12 := hkw11.tr0 hk12
    refine dr_op 6 rfl (by decide +kernel) rfl rfl (opTo_call rfl rfl rfl rfl (by decide +kernel) ((vcommit_ret hv12 hfP hfX hg0 (by omega) hrv (by omega) t.k hc).mono ?_))
    rintro v w13 ⟨rfl, hk13, hv13⟩
    have hy13 := hk13.blk hy12 (by simpa using Blk.ne hy12 hv12 (by decide))
    refine ⟨fun _ => hy13, ?_⟩
    have hd13 := hd12.keep hk13 (fun k hk => by
      simp only [List.mem_singleton]
      intro e
      exact not_fp hd12 hv12 (by decide) (e ▸ hk))
    have hs13 : StoreV w13 s d := hk13.blk hs12 (by simpa using Blk.ne hs12 hv12 (by decide))
    have hkw13 : Keep [] w w13 := hkw12.trans hk13 fun k hk => .inr (by simp at hk; omega)
    refine dr_pure 7 hT rfl (by decide +kernel) rfl rfl rfl ?_
    refine dr_pure 8 hT rfl (by decide +kernel) rfl rfl rfl ?_
    refine dr_pure 9 hT rfl (by decide +kernel) rfl rfl rfl ?_
    refine dr_pure 10 hT rfl (by decide +kernel) rfl rfl rfl ?_
    refine dr_pure 11 hT rfl (by decide +kernel) rfl rfl rfl ?_
    refine dr_done (by decide +kernel) ?_
    clear h11 hs11 hy11 hv11 hkw11 hv12 hd12 hs12 hkw12 hk12 hk13 hy12 hS0 hk0 hrv
    have hiff : (t.k < 0 ∨ t.k > (t.ps.length + 4 : Nat)) ↔ (t.k < 0 ∨ t.k ≥ (t.ps.length + 5 : Nat)) := by omega
    by_cases hdn : t.k < 0 ∨ t.k ≥ (t.ps.length + 5 : Nat)
    · rw [if_pos hdn] at hm
      subst hm
      rw [if_pos (hiff.2 hdn)] at hv13
      rw [hS2] at hd13
      rw [decide_eq_true hdn, decide_eq_true (hiff.2 hdn)]
      have hg2 := hN2.gen
      have hP13 : Pair w w13 d vb s S2 wv11 (newP t.ps P) X (j + 1) := ⟨hkw13, hd13, hs13, hN2.good, by omega, by rw [hg2]; exact hv13, newP_full (hst.pgs t htm).wf hfP, hfX, hN2.newP hc hrd⟩
      repeat (first | refine pl_pure hT rfl rfl rfl ?_ | refine pl_nil ?_ | refine rn_seq ?_ | refine rn_plain ?_ | refine rn_block ?_ | refine rn_inBlock ?_ | refine rn_skip ?_ | refine rn_true rfl ?_ | refine rn_false rfl ?_ | refine rn_exit rfl ?_ | refine pl_not rfl rfl ?_)
      refine pl_val (.bool false) rfl rfl (val_neBool true true _ (by decide +kernel) rfl rfl rfl rfl w13) ?_
      repeat (first | refine pl_pure hT rfl rfl rfl ?_ | refine pl_nil ?_ | refine rn_seq ?_ | refine rn_plain ?_ | refine rn_block ?_ | refine rn_inBlock ?_ | refine rn_skip ?_ | refine rn_true rfl ?_ | refine rn_false rfl ?_ | refine rn_exit rfl ?_ | refine pl_not rfl rfl ?_)
      refine pl_val (.bool false) rfl rfl (val_int .i64 0 0 _ rfl rfl rfl rfl w13) ?_
      repeat (first | refine pl_pure hT rfl rfl rfl ?_ | refine pl_nil ?_ | refine rn_seq ?_ | refine rn_plain ?_ | refine rn_block ?_ | refine rn_inBlock ?_ | refine rn_skip ?_ | refine rn_true rfl ?_ | refine rn_false rfl ?_ | refine rn_exit rfl ?_ | refine pl_not rfl rfl ?_)
      refine pl_val (.bool true) rfl rfl (val_int .i64 0 0 _ rfl rfl rfl rfl w13) ?_
      repeat (first | refine pl_pure hT rfl rfl rfl ?_ | refine pl_not rfl rfl ?_ | refine pl_nil ?_ | refine rn_false rfl ?_ | refine rn_skip ?_ | refine rn_inBlock ?_)
      refine rn_sub ?_ (hjoin _ w13 ⟨s, S2, wv11, _, X, rfl, hP13⟩)
      exact ⟨rfl, rfl, rfl, rfl, rfl, trivial⟩
    · rw [if_neg hdn] at hm
      rw [if_neg (fun h => hdn (hiff.1 h))] at hv13
      rw [decide_eq_false hdn, decide_eq_false (fun h => hdn (hiff.1 h))]
      have hmlt : m < t.ps.length + 5 := by omega
      obtain ⟨hnew, hsame⟩ := htorn m hmlt (maskB t.m)
      have hll := doDeeds_len ((deedsOf S t.ps).take m) (S, [])
      have hll2 : (doDeeds ((deedsOf S t.ps).take m) (S, [])).2.length < 1000000 := by
        rw [List.length_take] at hll
        simp only [List.length_nil] at hll
        have := Nat.min_le_left m (deedsOf S t.ps).length
        omega
      have hnf := newP_full (hst.pgs t htm).wf hfP
      repeat (first | refine pl_pure hT rfl rfl rfl ?_ | refine pl_nil ?_ | refine rn_seq ?_ | refine rn_plain ?_ | refine rn_block ?_ | refine rn_inBlock ?_ | refine rn_skip ?_ | refine rn_true rfl ?_ | refine rn_false rfl ?_ | refine rn_exit rfl ?_ | refine pl_not rfl rfl ?_)
      refine pl_val (.bool false) rfl rfl (val_neBool false false _ (by decide +kernel) rfl rfl rfl rfl w13) ?_
      repeat (first | refine pl_pure hT rfl rfl rfl ?_ | refine pl_nil ?_ | refine rn_seq ?_ | refine rn_plain ?_ | refine rn_block ?_ | refine rn_inBlock ?_ | refine rn_skip ?_ | refine rn_true rfl ?_ | refine rn_false rfl ?_ | refine rn_exit rfl ?_ | refine pl_not rfl rfl ?_)
      refine pl_val (.bool false) rfl rfl (val_int .i64 0 0 _ rfl rfl rfl rfl w13) ?_
      repeat (first | refine pl_pure hT rfl rfl rfl ?_ | refine pl_nil ?_ | refine rn_seq ?_ | refine rn_plain ?_ | refine rn_block ?_ | refine rn_inBlock ?_ | refine rn_skip ?_ | refine rn_true rfl ?_ | refine rn_false rfl ?_ | refine rn_exit rfl ?_ | refine pl_not rfl rfl ?_)
      refine pl_val (.bool true) rfl rfl (val_int .i64 0 0 _ rfl rfl rfl rfl w13) ?_
      repeat (first | refine pl_pure hT rfl rfl rfl ?_ | refine pl_nil ?_ | refine rn_seq ?_ | refine rn_plain ?_ | refine rn_block ?_ | refine rn_inBlock ?_ | refine rn_skip ?_ | refine rn_true rfl ?_ | refine rn_false rfl ?_ | refine rn_exit rfl ?_ | refine pl_not rfl rfl ?_)
      refine pl_val (.int .u64 t.m) rfl rfl (val_load1 hT rfl rfl rfl (hy13.cell rfl)) ?_
      refine pl_op rfl rfl (opTo_call rfl rfl rfl rfl (by decide +kernel) ((crash_ret hd13 hll2 t.m).mono ?_))
      rintro v w14 ⟨rfl, hd14, hk14⟩
      have hy14 := hk14.blk hy13 (by simpa using Blk.ne hy13 hd13.blk (by decide))
      have hv14 := hk14.blk hv13 (by simpa using Blk.ne hv13 hd13.blk (by decide))
      have hkw14 : Keep [] w w14 := hkw13.trans hk14 fun k hk => .inr (by simp at hk; omega)
      generalize settled (maskB t.m) (doDeeds ((deedsOf S t.ps).take m) (S, [])).2 (doDeeds ((deedsOf S t.ps).take m) (S, [])).1 = S9 at *
      repeat (first | refine pl_pure hT rfl rfl rfl ?_ | refine pl_nil ?_ | refine rn_seq ?_ | refine rn_plain ?_ | refine rn_block ?_ | refine rn_inBlock ?_ | refine rn_skip ?_ | refine rn_true rfl ?_ | refine rn_false rfl ?_ | refine rn_exit rfl ?_ | refine pl_not rfl rfl ?_)
      refine pl_val (.int .u64 t.m) rfl rfl (val_load1 hT rfl rfl rfl (hy14.cell rfl)) ?_
      refine pl_op rfl rfl (opTo_call rfl rfl rfl rfl (by decide +kernel) ((vcrash_ret hv14 hfP hnf hg0 (by omega) t.m).mono ?_))
      rintro v w15 ⟨rfl, hk15, hv15⟩
      have hd15 := hd14.keep hk15 (fun k hk => by
        simp only [List.mem_singleton]
        intro e
        exact not_fp hd14 hv14 (by decide) (e ▸ hk))
      have hkw15 : Keep [] w w15 := hkw14.trans hk15 fun k hk => .inr (by simp at hk; omega)
      repeat (first | refine pl_pure hT rfl rfl rfl ?_ | refine pl_nil ?_ | refine rn_seq ?_ | refine rn_plain ?_ | refine rn_block ?_ | refine rn_inBlock ?_ | refine rn_skip ?_ | refine rn_true rfl ?_ | refine rn_false rfl ?_ | refine rn_exit rfl ?_ | refine pl_not rfl rfl ?_)
      refine pl_op rfl rfl (opTo_call rfl rfl rfl rfl (by decide +kernel) ((open_ret d w15).mono ?_))
      rintro v w16 ⟨rfl, hs16, hk16⟩
      repeat (first | refine pl_pure hT rfl rfl rfl ?_ | refine pl_nil ?_ | refine rn_inBlock ?_)
      have hmk : (m = t.ps.length + 4) ↔ (t.k = (t.ps.length + 4 : Nat)) := by omega
      have hfin : ∃ P' X', Pair w w16 d vb w15.heap.size S9 (.slice none 0 0) P' X' (j + 1) := by
        by_cases hx : m = t.ps.length + 4 ∧ maskB t.m 0 = true
        · have hN := hnew hx
          have hg2 := hN.gen
          rw [if_pos ⟨by simpa using hmk.1 hx.1, hx.2⟩] at hv15
          exact ⟨newP t.ps P, newP t.ps P, hkw15.tr0 hk16, hd15.keep hk16 (by simp), hs16, hN.good, by omega, by rw [hg2]; exact hk16.blk hv15 (by simp), hnf, hnf, hN.newP hc hrd⟩
        · have hN := hsame hx
          have hg2 := hN.gen
          rw [if_neg (fun h => hx ⟨hmk.2 (by simpa using h.1), h.2⟩)] at hv15
          exact ⟨P, newP t.ps P, hkw15.tr0 hk16, hd15.keep hk16 (by simp), hs16, hN.good, by omega, by rw [hg2]; exact hk16.blk hv15 (by simp), hfP, hnf, fun i hi => by rw [hN.read]; exact hrd i hi⟩
      obtain ⟨P', X', hP16⟩ := hfin
      refine rn_sub ?_ (hjoin _ w16 ⟨_, S9, _, P', X', rfl, hP16⟩)
      exact ⟨rfl, rfl, rfl, rfl, rfl, trivial⟩
  refine pl_val (.bool false) rfl rfl (val_int .i64 _ 0 _ rfl rfl rfl (by simp [intOp, hd0]) w7) ?_
  refine pl_pure hT rfl rfl rfl ?_
  refine pl_nil ?_
  refine rn_false rfl ?_
  refine rn_seq ?_
  refine rn_plain ?_
  by_cases hd1 : t.d = 1
  · refine pl_val (.bool true) rfl rfl (val_int .i64 _ 1 _ rfl rfl rfl (by simp [intOp, hd1]) w7) ?_
    refine pl_pure hT rfl rfl rfl ?_
    refine pl_nil ?_
    refine rn_true rfl ?_
    repeat (first | refine pl_pure hT rfl rfl rfl ?_ | refine pl_nil ?_ | refine rn_seq ?_ | refine rn_plain ?_ | refine rn_block ?_ | refine rn_inBlock ?_ | refine rn_skip ?_ | refine rn_true rfl ?_ | refine rn_false rfl ?_ | refine rn_exit rfl ?_ | refine pl_not rfl rfl ?_)
    refine pl_val (.int .u64 t.m) rfl rfl (val_load1 hT rfl rfl rfl (hy7.cell rfl)) ?_
    refine pl_op rfl rfl (opTo_call rfl rfl rfl rfl (by decide +kernel) ((crash_ret hP7.disk (by decide) t.m).mono ?_))
    rintro v w8 ⟨rfl, h8, hk8⟩
    rw [settled_nil] at h8
    have hy8 := hk8.blk hy7 (by simpa using Blk.ne hy7 hP7.disk.blk (by decide))
    have hv8 := hk8.blk hP7.vault (by simpa using Blk.ne hP7.vault hP7.disk.blk (by decide))
    have hkw8 : Keep [] w w8 := hP7.keep.trans hk8 fun k hk => .inr (by simp at hk; omega)
    repeat (first | refine pl_pure hT rfl rfl rfl ?_ | refine pl_nil ?_ | refine rn_seq ?_ | refine rn_plain ?_ | refine rn_block ?_ | refine rn_inBlock ?_ | refine rn_skip ?_ | refine rn_true rfl ?_ | refine rn_false rfl ?_ | refine rn_exit rfl ?_ | refine pl_not rfl rfl ?_)
    refine pl_val (.int .u64 t.m) rfl rfl (val_load1 hT rfl rfl rfl (hy8.cell rfl)) ?_
    refine pl_op rfl rfl (opTo_call rfl rfl rfl rfl (by decide +kernel) ((vcrash_ret hv8 hP7.fP hP7.fX hg0 (by omega) t.m).mono ?_))
    rintro v w9 ⟨rfl, hk9, hv9⟩
    rw [if_neg (by simp)] at hv9
    have h9 := h8.keep hk9 (fun k hk => by
      simp only [List.mem_singleton]
      intro e
      exact not_fp h8 hv8 (by decide) (e ▸ hk))
    have hkw9 : Keep [] w w9 := hkw8.trans hk9 fun k hk => .inr (by simp at hk; omega)
    repeat (first | refine pl_pure hT rfl rfl rfl ?_ | refine pl_nil ?_ | refine rn_seq ?_ | refine rn_plain ?_ | refine rn_block ?_ | refine rn_inBlock ?_ | refine rn_skip ?_ | refine rn_true rfl ?_ | refine rn_false rfl ?_ | refine rn_exit rfl ?_ | refine pl_not rfl rfl ?_)
    refine pl_op rfl rfl (opTo_call rfl rfl rfl rfl (by decide +kernel) ((open_ret d w9).mono ?_))
    rintro v w10 ⟨rfl, hs10, hk10⟩
    repeat (first | refine pl_pure hT rfl rfl rfl ?_ | refine pl_nil ?_ | refine rn_inBlock ?_)
    have hP10 : Pair w w10 d vb w9.heap.size S (.slice none 0 0) P X (j + 1) := ⟨hkw9.tr0 hk10, h9.keep hk10 (by simp), hs10, hG, by omega, hk10.blk hv9 (by simp), hP7.fP, hP7.fX, hP7.read⟩
    refine rn_sub ?_ (hjoin _ w10 ⟨_, S, _, P, X, rfl, hP10⟩)
    exact ⟨rfl, rfl, rfl, rfl, rfl, trivial⟩
  refine pl_val (.bool false) rfl rfl (val_int .i64 _ 1 _ rfl rfl rfl (by simp [intOp, hd1]) w7) ?_
  refine pl_pure hT rfl rfl rfl ?_
  refine pl_nil ?_
  refine rn_false rfl ?_
  refine rn_seq ?_
  refine rn_plain ?_
  by_cases hd2 : t.d = 2
  · refine pl_val (.bool true) rfl rfl (val_int .i64 _ 2 _ rfl rfl rfl (by simp [intOp, hd2]) w7) ?_
    refine pl_pure hT rfl rfl rfl ?_
    refine pl_nil ?_
    refine rn_true rfl ?_
    repeat (first | refine pl_pure hT rfl rfl rfl ?_ | refine pl_nil ?_ | refine rn_seq ?_ | refine rn_plain ?_ | refine rn_block ?_ | refine rn_inBlock ?_ | refine rn_skip ?_ | refine rn_true rfl ?_ | refine rn_false rfl ?_ | refine rn_exit rfl ?_ | refine pl_not rfl rfl ?_)
    refine pl_op rfl rfl (opTo_call rfl rfl rfl rfl (by decide +kernel) ((open_ret d w7).mono ?_))
    rintro v w8 ⟨rfl, hs8, hk8⟩
    repeat (first | refine pl_pure hT rfl rfl rfl ?_ | refine pl_nil ?_ | refine rn_inBlock ?_)
    have hP8 := hP7.ext hk8
    have hP8' : Pair w w8 d vb w7.heap.size S wv P X (j + 1) := ⟨hP8.keep, hP8.disk, hs8, hG, by omega, hP8.vault, hP8.fP, hP8.fX, hP8.read⟩
    refine rn_sub ?_ (hjoin _ w8 ⟨_, S, _, P, X, rfl, hP8'⟩)
    exact ⟨rfl, rfl, rfl, rfl, rfl, trivial⟩
  refine pl_val (.bool false) rfl rfl (val_int .i64 _ 2 _ rfl rfl rfl (by simp [intOp, hd2]) w7) ?_
  refine pl_pure hT rfl rfl rfl ?_
  refine pl_nil ?_
  refine rn_false rfl ?_
  refine rn_skip ?_
  repeat (first | refine rn_inBlock ?_)
  refine rn_sub ?_ (hjoin _ w7 ⟨s, S, wv, P, X, rfl, hP7.up (by omega)⟩)
  exact ⟨rfl, rfl, rfl, rfl, rfl, trivial⟩
end E
end Go.Proofs.Ytcecheleagljgaa
