/- The walk of StoreSafe: whatever the steps, the last one and the masks, it returns true, and turns nothing that was there. -/
import Derived.Test.YtcecheleagljgaaArr
namespace Go.Proofs.Ytcecheleagljgaa
set_option maxRecDepth 20000
namespace E
open Go.Proofs

theorem tcell_one {s : SStep} (h : s.pv.oneCell' = true) : ∀ u ∈ tcell s, u.oneCell' = true := by
  intro u hu
  simp only [tcell, List.mem_cons, List.not_mem_nil, or_false] at hu
  rcases hu with rfl | rfl | rfl | rfl
  · rfl
  · rfl
  · exact h
  · rfl

theorem slice_step (s : SStep) (h : s.pv.oneCell' = true) : sliceCells Try.prog 45 1 [(0, Value.agg (tcell s).toArray)] = some (55, (tcell s).toArray) := by
  obtain ⟨d, k, pv, ps, m⟩ := s
  kernel_rfl

/-- What a disk is, whatever a commit was, and whatever stays of it in a crash. -/
theorem torn_view {S : List Int} (hG : Good S) {ps : List Pg} (hc : chk ps = 0) (hwf : ∀ p ∈ ps, p.2.length = 8) (m : Nat) (hm : m ≤ ps.length + 5) (stays : Nat → Bool) :
    New S ps (settled stays (doDeeds ((deedsOf S ps).take m) (S, [])).2 (doDeeds ((deedsOf S ps).take m) (S, [])).1) ∨ Same S (settled stays (doDeeds ((deedsOf S ps).take m) (S, [])).2 (doDeeds ((deedsOf S ps).take m) (S, [])).1) := by
  obtain ⟨⟨S2, hS2, hN⟩, htorn⟩ := commit_view hG hc hwf
  rcases Nat.lt_or_ge m (ps.length + 5) with h | h
  · obtain ⟨h1, h2⟩ := htorn m h stays
    by_cases hx : m = ps.length + 4 ∧ stays 0 = true
    · exact .inl (h1 hx)
    · exact .inr (h2 hx)
  · have : m = ps.length + 5 := by omega
    subst this
    rw [hS2]
    exact .inl hN

set_option maxHeartbeats 1600000 in
theorem safe_law {w : World} {lv : Value} {st : List SStep} (hst : ArgT w.heap.size w lv st) (t : SStep) (htp : Pgs w.heap.size w t.pv t.ps) {av : Value} {us : List Int} (hus : ArgU w.heap.size w av us) :
    Ret Try.prog 7 [lv, .agg (tcell t).toArray, av] w fun v w' => v = .bool true ∧ Keep [] w w' := by
  refine ret_of 161 Try.func7 rfl rfl (by simp) ?_
  obtain ⟨la, lcap, hlv⟩ := hst.form
  obtain ⟨ua, ucap, huv, _⟩ := hus.ex
  obtain ⟨pa, pcap, hpv⟩ := htp.form
  have hp1 : t.pv.oneCell' = true := by rw [hpv]; rfl
  repeat (first | refine pl_pure hT rfl rfl rfl ?_ | refine pl_nil ?_ | refine rn_seq ?_ | refine rn_plain ?_ | refine rn_block ?_ | refine rn_inBlock ?_ | refine rn_skip ?_ | refine rn_true rfl ?_ | refine rn_false rfl ?_ | refine rn_exit rfl ?_ | refine pl_not rfl rfl ?_)
  refine pl_op rfl rfl (opTo_box (tcell t) rfl rfl rfl ?_)
  have hk0 : Keep [] w (w.alloc (.cells (tcell t).toArray 55)) := (Keep.refl _ _).alloc _
  have hy0 := Blk.new w (tcell t) 55
  generalize (w.alloc (.cells (tcell t).toArray 55)) = w0 at *
  generalize hy : w.heap.size = y at hy0
  repeat (first | refine pl_pure hT rfl rfl rfl ?_ | refine pl_nil ?_ | refine rn_seq ?_ | refine rn_plain ?_ | refine rn_block ?_ | refine rn_inBlock ?_ | refine rn_skip ?_ | refine rn_true rfl ?_ | refine rn_false rfl ?_ | refine rn_exit rfl ?_ | refine pl_not rfl rfl ?_)
  refine pl_op rfl rfl (opTo_call rfl rfl rfl rfl (by decide +kernel) ((storeBegun_ret w0).mono ?_))
  rintro v w1 ⟨rfl, hk1⟩
  have hy1 := hk1.blk hy0 (by simp)
  have hk1 := hk0.tr0 hk1
  clear hk0 hy0
  repeat (first | refine pl_pure hT rfl rfl rfl ?_ | refine pl_nil ?_ | refine rn_seq ?_ | refine rn_plain ?_ | refine rn_block ?_ | refine rn_inBlock ?_ | refine rn_skip ?_ | refine rn_true rfl ?_ | refine rn_false rfl ?_ | refine rn_exit rfl ?_ | refine pl_not rfl rfl ?_)
  refine pl_op rfl rfl (opTo_call rfl rfl rfl rfl (by decide +kernel) ((great_ret (hst.keep hk1 (by simp))).mono ?_))
  rintro v w1' ⟨rfl, b, rfl, hsm⟩
  cases b with
  | true =>
    repeat (first | refine pl_pure hT rfl rfl rfl ?_ | refine pl_nil ?_ | refine rn_seq ?_ | refine rn_plain ?_ | refine rn_block ?_ | refine rn_inBlock ?_ | refine rn_skip ?_ | refine rn_true rfl ?_ | refine rn_false rfl ?_ | refine rn_exit rfl ?_ | refine pl_not rfl rfl ?_)
    exact rn_ret Try.func7 (.inl ⟨_, rfl, rfl⟩) ⟨rfl, hk1⟩
  | false =>
  obtain ⟨h60, h30⟩ := hsm rfl
  clear hsm
  repeat (first | refine pl_pure hT rfl rfl rfl ?_ | refine pl_nil ?_ | refine rn_seq ?_ | refine rn_plain ?_ | refine rn_block ?_ | refine rn_inBlock ?_ | refine rn_skip ?_ | refine rn_true rfl ?_ | refine rn_false rfl ?_ | refine rn_exit rfl ?_ | refine pl_not rfl rfl ?_)
  refine pl_val (.agg (tcell t).toArray) rfl rfl (val_load _ hT rfl rfl rfl (hy1.range rfl)) ?_
  refine pl_op rfl rfl (opTo_buildSlice _ _ rfl rfl (slice_step t hp1) ?_)
  have hk2 := hk1.alloc (.cells (tcell t).toArray 55)
  have hy2 := hy1.alloc (.cells (tcell t).toArray 55)
  have hz2 := Blk.new w1' (tcell t) 55
  have hsz2 : (w1'.alloc (.cells (tcell t).toArray 55)).heap.size = w1'.heap.size + 1 := World.size_alloc _ _
  have hsz1 := hk1.size
  generalize (w1'.alloc (.cells (tcell t).toArray 55)) = w2 at *
  have hone : ArgT (w1'.heap.size + 1) w2 (.slice (some ⟨w1'.heap.size, 0, none⟩) 1 1) [t] :=
    ⟨⟨_, _, rfl, fun _ => ⟨_, _, rfl, Nat.lt_succ_self _, hz2.range rfl⟩⟩, by
      intro s hs
      simp at hs
      subst hs
      exact (htp.keep hk2 (by simp)).up (by omega) (by omega), by omega⟩
  refine pl_op rfl rfl (opTo_call rfl rfl rfl rfl (by decide +kernel) ((great_ret hone).mono ?_))
  rintro v w2' ⟨rfl, b, rfl, hsm⟩
  clear hone hz2 hsz2
  cases b with
  | true =>
    repeat (first | refine pl_pure hT rfl rfl rfl ?_ | refine pl_nil ?_ | refine rn_seq ?_ | refine rn_plain ?_ | refine rn_block ?_ | refine rn_inBlock ?_ | refine rn_skip ?_ | refine rn_true rfl ?_ | refine rn_false rfl ?_ | refine rn_exit rfl ?_ | refine pl_not rfl rfl ?_)
    exact rn_ret Try.func7 (.inl ⟨_, rfl, rfl⟩) ⟨rfl, hk2⟩
  | false =>
  have ht30 : t.ps.length ≤ 30 := (hsm rfl).2 t (by simp)
  clear hsm hk1 hy1 hsz1
  repeat (first | refine pl_pure hT rfl rfl rfl ?_ | refine pl_nil ?_ | refine rn_seq ?_ | refine rn_plain ?_ | refine rn_block ?_ | refine rn_inBlock ?_ | refine rn_skip ?_ | refine rn_true rfl ?_ | refine rn_false rfl ?_ | refine rn_exit rfl ?_ | refine pl_not rfl rfl ?_)
  refine pl_val (.int .i64 us.length) rfl rfl (val_pure hT (by rw [huv]; rfl) w2') ?_
  by_cases h20 : us.length > 20
  · refine pl_val (.bool true) rfl rfl (val_int .i64 _ 20 _ rfl rfl rfl (by simp [intOp]; omega) w2') ?_
    repeat (first | refine pl_pure hT rfl rfl rfl ?_ | refine pl_nil ?_ | refine rn_seq ?_ | refine rn_plain ?_ | refine rn_block ?_ | refine rn_inBlock ?_ | refine rn_skip ?_ | refine rn_true rfl ?_ | refine rn_false rfl ?_ | refine rn_exit rfl ?_ | refine pl_not rfl rfl ?_)
    exact rn_ret Try.func7 (.inl ⟨_, rfl, rfl⟩) ⟨rfl, hk2⟩
  refine pl_val (.bool false) rfl rfl (val_int .i64 _ 20 _ rfl rfl rfl (by simp [intOp]; omega) w2') ?_
  repeat (first | refine pl_pure hT rfl rfl rfl ?_ | refine pl_nil ?_ | refine rn_seq ?_ | refine rn_plain ?_ | refine rn_block ?_ | refine rn_inBlock ?_ | refine rn_skip ?_ | refine rn_true rfl ?_ | refine rn_false rfl ?_ | refine rn_exit rfl ?_ | refine pl_not rfl rfl ?_)
  refine pl_val t.pv rfl rfl (val_load1 hT rfl rfl rfl (hy2.cell rfl)) ?_
  refine pl_op rfl rfl (opTo_call rfl rfl rfl rfl (by decide +kernel) ((check_ret (htp.keep hk2 (by simp)) (by omega)).mono ?_))
  rintro v w3 ⟨rfl, hk3⟩
  have hy3 := hk3.blk hy2 (by simp)
  have hk3 := hk2.tr0 hk3
  clear hk2 hy2
  by_cases hc : chk t.ps = 0
  case neg =>
    refine pl_val (.bool true) rfl rfl (val_int .i64 _ 0 _ rfl rfl rfl (by simp [intOp, hc]) w3) ?_
    repeat (first | refine pl_pure hT rfl rfl rfl ?_ | refine pl_nil ?_ | refine rn_seq ?_ | refine rn_plain ?_ | refine rn_block ?_ | refine rn_inBlock ?_ | refine rn_skip ?_ | refine rn_true rfl ?_ | refine rn_false rfl ?_ | refine rn_exit rfl ?_ | refine pl_not rfl rfl ?_)
    exact rn_ret Try.func7 (.inl ⟨_, rfl, rfl⟩) ⟨rfl, hk3⟩
  refine pl_val (.bool false) rfl rfl (val_int .i64 _ 0 _ rfl rfl rfl (by simp [intOp, hc]) w3) ?_
  repeat (first | refine pl_pure hT rfl rfl rfl ?_ | refine pl_nil ?_ | refine rn_seq ?_ | refine rn_plain ?_ | refine rn_block ?_ | refine rn_inBlock ?_ | refine rn_skip ?_ | refine rn_true rfl ?_ | refine rn_false rfl ?_ | refine rn_exit rfl ?_ | refine pl_not rfl rfl ?_)
  refine pl_op rfl rfl (opTo_call rfl rfl rfl rfl (by decide +kernel) ((new_ret w3).mono ?_))
  rintro v w4 ⟨rfl, h4, hk4⟩
  have hB : w.heap.size ≤ w3.heap.size := hk3.size
  have hy4 := hk4.blk hy3 (by simp)
  have hk4 := hk3.tr0 hk4
  generalize w3.heap.size = d at *
  clear hk3 hy3
  repeat (first | refine pl_pure hT rfl rfl rfl ?_ | refine pl_nil ?_ | refine rn_seq ?_ | refine rn_plain ?_ | refine rn_block ?_ | refine rn_inBlock ?_ | refine rn_skip ?_ | refine rn_true rfl ?_ | refine rn_false rfl ?_ | refine rn_exit rfl ?_ | refine pl_not rfl rfl ?_)
  refine pl_op rfl rfl (opTo_call rfl rfl rfl rfl (by decide +kernel) ((open_ret d w4).mono ?_))
  rintro v w5 ⟨rfl, hs5, hk5⟩
  have h5 := h4.keep hk5 (by simp)
  have hy5 := hk5.blk hy4 (by simp)
  have hk5 := hk4.tr0 hk5
  generalize w4.heap.size = s at *
  clear hk4 hy4 h4
  repeat (first | refine pl_pure hT rfl rfl rfl ?_ | refine pl_nil ?_ | refine rn_seq ?_ | refine rn_plain ?_ | refine rn_block ?_ | refine rn_inBlock ?_ | refine rn_skip ?_ | refine rn_true rfl ?_ | refine rn_false rfl ?_ | refine rn_exit rfl ?_ | refine pl_not rfl rfl ?_)
  refine rn_ind (fun q σ w' => ∃ j S wv, q = st.length - j ∧ j ≤ st.length ∧ σ = [(0, lv), (2, av), (4, .pointer (some ⟨y, 0, none⟩)), (7, .pointer (some ⟨d, 0, none⟩)), (8, .pointer (some ⟨s, 0, none⟩)), (9, .int .i64 (j : Nat))] ∧
      Keep [] w w' ∧ DiskV d w' d S [] wv ∧ StoreV w' s d ∧ Good S ∧ genS S ≤ j ∧ Blk w' y (tcell t) 55)
    (st.length - 0) _ ?_ ⟨0, S0, _, rfl, Nat.zero_le _, rfl, hk5, h5, hs5, good0, by rw [genS0]; decide, hy5⟩ ?_
  · exact ⟨rfl, rfl, rfl, rfl, rfl, rfl, trivial⟩
  clear h5 hs5 hk5 hy5
  rintro q σ w5 ih ⟨j, S, wv, hq, hj, rfl, hk5, h5, hs5, hG, hgj, hy5⟩
  have hg0 := genS_nonneg S
  repeat (first | refine pl_pure hT rfl rfl rfl ?_ | refine pl_nil ?_ | refine rn_seq ?_ | refine rn_plain ?_ | refine rn_block ?_ | refine rn_inBlock ?_ | refine rn_skip ?_ | refine rn_true rfl ?_ | refine rn_false rfl ?_ | refine rn_exit rfl ?_ | refine pl_not rfl rfl ?_)
  refine pl_val (.int .i64 st.length) rfl rfl (val_pure hT (by rw [hlv]; rfl) w5) ?_
  rcases Nat.lt_or_ge j st.length with hlt | hge
  · refine pl_val (.bool true) rfl rfl (val_int .i64 _ _ _ rfl rfl rfl (by simp [intOp]; omega) w5) ?_
    obtain ⟨r, hr⟩ : ∃ r, st[j]? = some r := ⟨_, List.getElem?_eq_getElem hlt⟩
    have hrm := List.mem_of_getElem? hr
    have hp5 := (hst.keep hk5 (by simp)).pgs r hrm
    have hl30 := h30 r hrm
    obtain ⟨b, o, cap, hlv', hb, hrr⟩ := (hst.keep hk5 (by simp)).at hr
    repeat (first | refine pl_pure hT rfl rfl rfl ?_ | refine pl_nil ?_ | refine rn_seq ?_ | refine rn_plain ?_ | refine rn_block ?_ | refine rn_inBlock ?_ | refine rn_skip ?_ | refine rn_true rfl ?_ | refine rn_false rfl ?_ | refine rn_exit rfl ?_ | refine pl_not rfl rfl ?_)
    refine pl_val _ rfl rfl (val_index j hT rfl (by rw [hlv']; rfl) rfl rfl rfl hlt w5) ?_
    repeat (first | refine pl_pure hT rfl rfl rfl ?_ | refine pl_nil ?_ | refine rn_seq ?_ | refine rn_plain ?_ | refine rn_block ?_ | refine rn_inBlock ?_ | refine rn_skip ?_ | refine rn_true rfl ?_ | refine rn_false rfl ?_ | refine rn_exit rfl ?_ | refine pl_not rfl rfl ?_)
    refine pl_val r.pv rfl rfl (val_load1 hT rfl rfl rfl (hrr 2 _ rfl)) ?_
    refine pl_op rfl rfl (opTo_call rfl rfl rfl rfl (by decide +kernel) ((check_ret hp5 (by omega)).mono ?_))
    rintro v w6 ⟨rfl, hk6⟩
    have h6 := h5.keep hk6 (by simp)
    have hs6 : StoreV w6 s d := hk6.blk hs5 (by simp)
    have hy6 := hk6.blk hy5 (by simp)
    have hk6 := hk5.tr0 hk6
    by_cases hcr : chk r.ps = 0
    · refine pl_val (.bool true) rfl rfl (val_int .i64 _ 0 _ rfl rfl rfl (by simp [intOp, hcr]) w6) ?_
      have hp6 := (hst.keep hk6 (by simp)).pgs r hrm
      obtain ⟨b, o, cap, hlv', hb, hrr⟩ := (hst.keep hk6 (by simp)).at hr
      repeat (first | refine pl_pure hT rfl rfl rfl ?_ | refine pl_nil ?_ | refine rn_seq ?_ | refine rn_plain ?_ | refine rn_block ?_ | refine rn_inBlock ?_ | refine rn_skip ?_ | refine rn_true rfl ?_ | refine rn_false rfl ?_ | refine rn_exit rfl ?_ | refine pl_not rfl rfl ?_)
      refine pl_val _ rfl rfl (val_index j hT rfl (by rw [hlv']; rfl) rfl rfl rfl hlt w6) ?_
      repeat (first | refine pl_pure hT rfl rfl rfl ?_ | refine pl_nil ?_ | refine rn_seq ?_ | refine rn_plain ?_ | refine rn_block ?_ | refine rn_inBlock ?_ | refine rn_skip ?_ | refine rn_true rfl ?_ | refine rn_false rfl ?_ | refine rn_exit rfl ?_ | refine pl_not rfl rfl ?_)
      refine pl_val r.pv rfl rfl (val_load1 hT rfl rfl rfl (hrr 2 _ rfl)) ?_
      obtain ⟨⟨S2, hS2, hN2⟩, _⟩ := commit_view hG hcr hp6.wf
      refine pl_op rfl rfl (opTo_call rfl rfl rfl rfl (by decide +kernel) ((commit_ret hs6 h6 hp6 (by omega) (by decide) hg0 (by omega) (-1) hcr (r.ps.length + 5) (by simp)).mono ?_))
      rintro v w7 ⟨rfl, wv7, h7, hk7, hf7⟩
      rw [hS2] at h7
      replace h7 : DiskV d w7 d S2 [] wv7 := h7
      have hg2 := hN2.gen
      have hs7 : StoreV w7 s d := hk7.blk hs6 (not_fp h6 hs6 (by decide))
      have hy7 := hk7.blk hy6 (not_fp h6 hy6 (by decide))
      have hk7 : Keep [] w w7 := hk6.trans hk7 fun k hk => .inr (Nat.le_trans hB (h6.lt k hk).1)
      repeat (first | refine pl_pure hT rfl rfl rfl ?_ | refine pl_nil ?_ | refine rn_seq ?_ | refine rn_plain ?_ | refine rn_block ?_ | refine rn_inBlock ?_ | refine rn_skip ?_ | refine rn_true rfl ?_ | refine rn_false rfl ?_ | refine rn_exit rfl ?_ | refine pl_not rfl rfl ?_)
      refine pl_val (.int .i64 ((j + 1 : Nat) : Int)) rfl rfl (val_int .i64 j 1 _ rfl rfl rfl (by simp only [intOp]; rw [wrap_i64 (by omega) (by omega)]; rfl) w7) ?_
      repeat (first | refine pl_pure hT rfl rfl rfl ?_ | refine pl_nil ?_ | refine rn_seq ?_ | refine rn_plain ?_ | refine rn_block ?_ | refine rn_inBlock ?_ | refine rn_skip ?_ | refine rn_true rfl ?_ | refine rn_false rfl ?_ | refine rn_exit rfl ?_ | refine pl_not rfl rfl ?_)
      refine rn_sub ?_ (ih (st.length - (j + 1)) _ w7 (by omega) ⟨j + 1, S2, wv7, rfl, hlt, rfl, hk7, h7, hs7, hN2.good, by omega, hy7⟩)
      exact ⟨rfl, rfl, rfl, rfl, rfl, rfl, trivial⟩
    · refine pl_val (.bool false) rfl rfl (val_int .i64 _ 0 _ rfl rfl rfl (by simp [intOp, hcr]) w6) ?_
      repeat (first | refine pl_pure hT rfl rfl rfl ?_ | refine pl_nil ?_ | refine rn_seq ?_ | refine rn_plain ?_ | refine rn_block ?_ | refine rn_inBlock ?_ | refine rn_skip ?_ | refine rn_true rfl ?_ | refine rn_false rfl ?_ | refine rn_exit rfl ?_ | refine pl_not rfl rfl ?_)
      refine pl_val (.int .i64 ((j + 1 : Nat) : Int)) rfl rfl (val_int .i64 j 1 _ rfl rfl rfl (by simp only [intOp]; rw [wrap_i64 (by omega) (by omega)]; rfl) w6) ?_
      repeat (first | refine pl_pure hT rfl rfl rfl ?_ | refine pl_nil ?_ | refine rn_seq ?_ | refine rn_plain ?_ | refine rn_block ?_ | refine rn_inBlock ?_ | refine rn_skip ?_ | refine rn_true rfl ?_ | refine rn_false rfl ?_ | refine rn_exit rfl ?_ | refine pl_not rfl rfl ?_)
      refine rn_sub ?_ (ih (st.length - (j + 1)) _ w6 (by omega) ⟨j + 1, S, wv, rfl, hlt, rfl, hk6, h6, hs6, hG, by omega, hy6⟩)
      exact ⟨rfl, rfl, rfl, rfl, rfl, rfl, trivial⟩
  refine pl_val (.bool false) rfl rfl (val_int .i64 _ _ _ rfl rfl rfl (by simp [intOp]; omega) w5) ?_
  clear ih
  have hg1 : genS S < 1000 := by omega
  clear hgj hge hj hq
  repeat (first | refine pl_pure hT rfl rfl rfl ?_ | refine pl_nil ?_ | refine rn_seq ?_ | refine rn_plain ?_ | refine rn_block ?_ | refine rn_inBlock ?_ | refine rn_skip ?_ | refine rn_true rfl ?_ | refine rn_false rfl ?_ | refine rn_exit rfl ?_ | refine pl_not rfl rfl ?_)
  refine pl_op rfl rfl (opTo_alloc _ rfl zero_arr ?_)
  refine pl_op rfl rfl (opTo_alloc _ rfl zero_arr ?_)
  rw [World.size_alloc]
  have hk6 : Keep [] w5 ((w5.alloc (.cells (arr fun _ => z8).toArray 48)).alloc (.cells (arr fun _ => z8).toArray 48)) := ((Keep.refl _ _).alloc _).alloc _
  have ha6 := (Blk.new w5 (arr fun _ => z8) 48).alloc (.cells (arr fun _ => z8).toArray 48)
  have hn6 := Blk.new (w5.alloc (.cells (arr fun _ => z8).toArray 48)) (arr fun _ => z8) 48
  rw [World.size_alloc] at hn6
  generalize ((w5.alloc (.cells (arr fun _ => z8).toArray 48)).alloc (.cells (arr fun _ => z8).toArray 48)) = w6 at *
  have h6 := h5.keep hk6 (by simp)
  have hs6 : StoreV w6 s d := hk6.blk hs5 (by simp)
  have hy6 := hk6.blk hy5 (by simp)
  have hk6 := hk5.tr0 hk6
  have hle := hk5.size
  have hne : w5.heap.size ≠ w5.heap.size + 1 := by omega
  generalize hx1 : w5.heap.size + 1 = x1 at *
  have hle1 : w.heap.size ≤ x1 := by omega
  generalize w5.heap.size = x at *
  clear hx1 h5 hs5 hy5 hk5
  have hS := hG.len
  repeat (first | refine pl_pure hT rfl rfl rfl ?_ | refine pl_nil ?_ | refine rn_seq ?_ | refine rn_plain ?_ | refine rn_block ?_ | refine rn_inBlock ?_ | refine rn_skip ?_ | refine rn_true rfl ?_ | refine rn_false rfl ?_ | refine rn_exit rfl ?_ | refine pl_not rfl rfl ?_)
  refine rn_ind (fun q σ w' => ∃ j, q = 14 - j ∧ j ≤ 14 ∧ σ = [(0, lv), (2, av), (4, .pointer (some ⟨y, 0, none⟩)), (7, .pointer (some ⟨d, 0, none⟩)), (8, .pointer (some ⟨s, 0, none⟩)), (10, .pointer (some ⟨x, 0, none⟩)), (11, .pointer (some ⟨x1, 0, none⟩)), (12, .int .i64 (j : Nat))] ∧
      Keep [] w w' ∧ DiskV d w' d S [] wv ∧ StoreV w' s d ∧ Blk w' y (tcell t) 55 ∧
      Blk w' x (arr fun p => if p < j then readS S (p : Nat) else z8) 48 ∧ Blk w' x1 (arr fun p => if p < j then readS S (p : Nat) else z8) 48)
    (14 - 0) _ ?_ ⟨0, rfl, by decide, rfl, hk6, h6, hs6, hy6, by simpa using ha6, by simpa using hn6⟩ ?_
  · exact ⟨rfl, rfl, rfl, rfl, rfl, rfl, rfl, rfl, trivial⟩
  clear hk6 h6 hs6 hy6 ha6 hn6
  rintro q σ w6 ih ⟨j, hq, hj, rfl, hk6, h6, hs6, hy6, ha6, hn6⟩
  repeat (first | refine pl_pure hT rfl rfl rfl ?_ | refine pl_nil ?_ | refine rn_seq ?_ | refine rn_plain ?_ | refine rn_block ?_ | refine rn_inBlock ?_ | refine rn_skip ?_ | refine rn_true rfl ?_ | refine rn_false rfl ?_ | refine rn_exit rfl ?_ | refine pl_not rfl rfl ?_)
  rcases Nat.lt_or_ge j 14 with hlt | hge
  · refine pl_val (.bool true) rfl rfl (val_int .i64 _ _ _ rfl rfl rfl (by simp [intOp]; omega) w6) ?_
    have hfull : Full fun p => if p < j then readS S (p : Nat) else z8 := fun i => by
      show (if i < j then readS S (i : Nat) else z8).length = 8
      split
      · exact readS_length hS _
      · rfl
    have h8 := readS_length hS (j : Nat)
    have enext : arr (setF (fun p => if p < j then readS S (p : Nat) else z8) j (readS S (j : Nat))) = arr fun p => if p < j + 1 then readS S (p : Nat) else z8 := arr_congr fun i hi => by
      simp only [setF]
      by_cases e : i = j
      · rw [if_pos e, if_pos (by omega), e]
      · rw [if_neg e]
        by_cases h' : i < j
        · rw [if_pos h', if_pos (by omega)]
        · rw [if_neg h', if_neg (by omega)]
    repeat (first | refine pl_pure hT rfl rfl rfl ?_ | refine pl_nil ?_ | refine rn_seq ?_ | refine rn_plain ?_ | refine rn_block ?_ | refine rn_inBlock ?_ | refine rn_skip ?_ | refine rn_true rfl ?_ | refine rn_false rfl ?_ | refine rn_exit rfl ?_ | refine pl_not rfl rfl ?_)
    refine rn_draw (fun w' => True) [] hMix ?_
    refine dr_pure 0 hT rfl (by decide +kernel) rfl rfl rfl ?_
    refine dr_pure 1 hT rfl (by decide +kernel) rfl rfl rfl ?_
    refine dr_pure 2 hT rfl (by decide +kernel) rfl rfl rfl ?_
    refine dr_pure 3 hT rfl (by decide +kernel) rfl rfl rfl ?_
    refine dr_pure 5 hT rfl (by decide +kernel) rfl rfl rfl ?_
    refine dr_pure 6 hT rfl (by decide +kernel) rfl rfl rfl ?_
    have hk7 : Keep [] w6 w6.drew := (Keep.refl _ _).drew
    refine dr_op 4 rfl (by decide +kernel) rfl rfl (opTo_call rfl rfl rfl rfl (by decide +kernel) ((sread_ret (hk7.blk hs6 (by simp)) (h6.keep hk7 (by simp)) (j : Nat)).mono ?_))
    rintro v w8 ⟨rfl, hk8⟩
    refine ⟨fun _ => trivial, ?_⟩
    have hk8 := hk7.tr0 hk8
    refine dr_any 8 _ rfl (by decide +kernel) rfl rfl (fun w' => val_indexArr j hT rfl rfl rfl rfl rfl hlt w') ?_
    refine dr_op 7 rfl (by decide +kernel) rfl rfl (opTo_call rfl rfl rfl rfl (by decide +kernel) ((sread_ret (hk8.blk hs6 (by simp)) (h6.keep hk8 (by simp)) (j : Nat)).mono ?_))
    rintro v w9 ⟨rfl, hk9⟩
    refine ⟨fun _ => trivial, ?_⟩
    have hk9 := hk8.tr0 hk9
    have ha9 := hk9.blk ha6 (by simp)
    have hn9 := hk9.blk hn6 (by simp)
    refine dr_op 9 rfl (by decide +kernel) rfl rfl (opTo_store (ints (readS S (j : Nat))) rfl rfl rfl rfl (by rw [ints_length, h8]; decide +kernel) ha9 (by rw [ints_length, h8, arr_length hfull]; omega) (ints_one _) ⟨fun _ => trivial, ?_⟩)
    rw [show splice (arr fun p => if p < j then readS S (p : Nat) else z8) (0 + j * 8) (ints (readS S (j : Nat))) = arr fun p => if p < j + 1 then readS S (p : Nat) else z8 by
      rw [Nat.zero_add, arr_set hfull hlt h8, enext]]
    have ha10 := ha9.set (arr fun p => if p < j + 1 then readS S (p : Nat) else z8)
    have hn10 := hn9.other (arr fun p => if p < j + 1 then readS S (p : Nat) else z8).toArray (c := x) (by omega)
    have hkx : Keep [x] w9 (w9.setRow x (arr fun p => if p < j + 1 then readS S (p : Nat) else z8).toArray) := (Keep.refl _ _).setRow _ _ (.inl (by simp))
    have hd10 := (h6.keep hk9 (by simp)).keep hkx (fun k hk => by
      simp only [List.mem_singleton]
      intro e
      exact not_fp (h6.keep hk9 (by simp)) ha9 (by decide) (e ▸ hk))
    have hs10 : StoreV _ s d := hkx.blk (hk9.blk hs6 (by simp)) (by simp only [List.mem_singleton]; exact Blk.ne (hk9.blk hs6 (by simp)) ha9 (by decide))
    have hy10 := hkx.blk (hk9.blk hy6 (by simp)) (by simp only [List.mem_singleton]; exact Blk.ne (hk9.blk hy6 (by simp)) ha9 (by decide))
    have hk10 := (hk6.tr0 hk9).setRow x (arr fun p => if p < j + 1 then readS S (p : Nat) else z8).toArray (.inr hle)
    generalize (w9.setRow x (arr fun p => if p < j + 1 then readS S (p : Nat) else z8).toArray) = w10 at *
    refine dr_any 10 _ rfl (by decide +kernel) rfl rfl (fun w' => val_indexArr j hT rfl rfl rfl rfl rfl hlt w') ?_
    refine dr_op 11 rfl (by decide +kernel) rfl rfl (opTo_store (ints (readS S (j : Nat))) rfl rfl rfl rfl (by rw [ints_length, h8]; decide +kernel) hn10 (by rw [ints_length, h8, arr_length hfull]; omega) (ints_one _) ⟨fun _ => trivial, ?_⟩)
    rw [show splice (arr fun p => if p < j then readS S (p : Nat) else z8) (0 + j * 8) (ints (readS S (j : Nat))) = arr fun p => if p < j + 1 then readS S (p : Nat) else z8 by
      rw [Nat.zero_add, arr_set hfull hlt h8, enext]]
    have hn11 := hn10.set (arr fun p => if p < j + 1 then readS S (p : Nat) else z8)
    have ha11 := ha10.other (arr fun p => if p < j + 1 then readS S (p : Nat) else z8).toArray (c := x1) (by omega)
    have hkx : Keep [x1] w10 (w10.setRow x1 (arr fun p => if p < j + 1 then readS S (p : Nat) else z8).toArray) := (Keep.refl _ _).setRow _ _ (.inl (by simp))
    have hd11 := hd10.keep hkx (fun k hk => by
      simp only [List.mem_singleton]
      intro e
      exact not_fp hd10 hn10 (by decide) (e ▸ hk))
    have hs11 : StoreV _ s d := hkx.blk hs10 (by simp only [List.mem_singleton]; exact Blk.ne hs10 hn10 (by decide))
    have hy11 := hkx.blk hy10 (by simp only [List.mem_singleton]; exact Blk.ne hy10 hn10 (by decide))
    have hk11 := hk10.setRow x1 (arr fun p => if p < j + 1 then readS S (p : Nat) else z8).toArray (.inr hle1)
    generalize (w10.setRow x1 (arr fun p => if p < j + 1 then readS S (p : Nat) else z8).toArray) = w11 at *
    refine dr_done (by decide +kernel) ?_
    repeat (first | refine pl_pure hT rfl rfl rfl ?_ | refine pl_nil ?_ | refine rn_seq ?_ | refine rn_plain ?_ | refine rn_block ?_ | refine rn_inBlock ?_ | refine rn_skip ?_ | refine rn_true rfl ?_ | refine rn_false rfl ?_ | refine rn_exit rfl ?_ | refine pl_not rfl rfl ?_)
    refine pl_val (.int .i64 ((j + 1 : Nat) : Int)) rfl rfl (val_int .i64 j 1 _ rfl rfl rfl (by simp only [intOp]; rw [wrap_i64 (by omega) (by omega)]; rfl) w11) ?_
    repeat (first | refine pl_pure hT rfl rfl rfl ?_ | refine pl_nil ?_ | refine rn_seq ?_ | refine rn_plain ?_ | refine rn_block ?_ | refine rn_inBlock ?_ | refine rn_skip ?_ | refine rn_true rfl ?_ | refine rn_false rfl ?_ | refine rn_exit rfl ?_ | refine pl_not rfl rfl ?_)
    refine rn_sub ?_ (ih (14 - (j + 1)) _ w11 (by omega) ⟨j + 1, rfl, hlt, rfl, hk11, hd11, hs11, hy11, ha11, hn11⟩)
    exact ⟨rfl, rfl, rfl, rfl, rfl, rfl, rfl, rfl, trivial⟩
  have hj14 : j = 14 := by omega
  subst hj14
  clear ih hq hge hj
  refine pl_val (.bool false) rfl rfl (val_int .i64 _ _ _ rfl rfl rfl (by simp [intOp]) w6) ?_
  have ewas : arr (fun p => if p < 14 then readS S (p : Nat) else z8) = arr fun p => readS S (p : Nat) := arr_congr fun i hi => by rw [if_pos hi]
  rw [ewas] at ha6 hn6
  repeat (first | refine pl_pure hT rfl rfl rfl ?_ | refine pl_nil ?_ | refine rn_seq ?_ | refine rn_plain ?_ | refine rn_block ?_ | refine rn_inBlock ?_ | refine rn_skip ?_ | refine rn_true rfl ?_ | refine rn_false rfl ?_ | refine rn_exit rfl ?_ | refine pl_not rfl rfl ?_)
  have hw8 : Full fun p => readS S (p : Nat) := fun i => readS_length hS _
  refine rn_ind (fun q σ w' => ∃ k, q = t.ps.length - k ∧ k ≤ t.ps.length ∧ σ = [(0, lv), (2, av), (4, .pointer (some ⟨y, 0, none⟩)), (7, .pointer (some ⟨d, 0, none⟩)), (8, .pointer (some ⟨s, 0, none⟩)), (10, .pointer (some ⟨x, 0, none⟩)), (11, .pointer (some ⟨x1, 0, none⟩)), (13, .int .i64 (k : Nat))] ∧
      Keep [] w w' ∧ DiskV d w' d S [] wv ∧ StoreV w' s d ∧ Blk w' y (tcell t) 55 ∧
      Blk w' x (arr fun p => readS S (p : Nat)) 48 ∧ Blk w' x1 (arr fun p => (lookI (t.ps.take k) (p : Nat)).getD (readS S (p : Nat))) 48)
    (t.ps.length - 0) _ ?_ ⟨0, rfl, Nat.zero_le _, rfl, hk6, h6, hs6, hy6, ha6, hn6⟩ ?_
  · exact ⟨rfl, rfl, rfl, rfl, rfl, rfl, rfl, rfl, trivial⟩
  clear hk6 h6 hs6 hy6 ha6 hn6
  rintro q σ w6 ih ⟨k, hq, hk, rfl, hk6, h6, hs6, hy6, ha6, hn6⟩
  repeat (first | refine pl_pure hT rfl rfl rfl ?_ | refine pl_nil ?_ | refine rn_seq ?_ | refine rn_plain ?_ | refine rn_block ?_ | refine rn_inBlock ?_ | refine rn_skip ?_ | refine rn_true rfl ?_ | refine rn_false rfl ?_ | refine rn_exit rfl ?_ | refine pl_not rfl rfl ?_)
  refine pl_val t.pv rfl rfl (val_load1 hT rfl rfl rfl (hy6.cell rfl)) ?_
  refine pl_val (.int .i64 t.ps.length) rfl rfl (val_pure hT (by rw [hpv]; rfl) w6) ?_
  rcases Nat.lt_or_ge k t.ps.length with hlt | hge
  · refine pl_val (.bool true) rfl rfl (val_int .i64 _ _ _ rfl rfl rfl (by simp [intOp]; omega) w6) ?_
    obtain ⟨p, hp⟩ : ∃ p, t.ps[k]? = some p := ⟨_, List.getElem?_eq_getElem hlt⟩
    have hpm := List.mem_of_getElem? hp
    have h8 := htp.wf p hpm
    have hi : 0 ≤ p.1 ∧ p.1 < 14 := by simpa [hasP] using chkFrom_ok hc p hpm
    have hp6 := htp.keep hk6 (by simp)
    obtain ⟨pb, po, pcap', hpv', hpb, hpr⟩ := hp6.at hp
    have hfull : Full fun i => (lookI (t.ps.take k) (i : Nat)).getD (readS S (i : Nat)) := fun i => look_len (fun p hp => htp.wf p (List.mem_of_mem_take hp)) _ (readS_length hS _)
    have enext : arr (setF (fun i => (lookI (t.ps.take k) (i : Nat)).getD (readS S (i : Nat))) p.1.toNat p.2) = arr fun i => (lookI (t.ps.take (k + 1)) (i : Nat)).getD (readS S (i : Nat)) := arr_congr fun i hi => by
      simp only [setF]
      rw [lookI_take hp]
      by_cases e : i = p.1.toNat
      · rw [if_pos e, if_pos (by omega)]
      · rw [if_neg e, if_neg (by omega)]
    repeat (first | refine pl_pure hT rfl rfl rfl ?_ | refine pl_nil ?_ | refine rn_seq ?_ | refine rn_plain ?_ | refine rn_block ?_ | refine rn_inBlock ?_ | refine rn_skip ?_ | refine rn_true rfl ?_ | refine rn_false rfl ?_ | refine rn_exit rfl ?_ | refine pl_not rfl rfl ?_)
    have hS0 : Blk w6.drew y (tcell t) 55 ∧ w6.drew.rangeAt pb (po + k * 9) (pcell p) := ⟨hy6, hpr⟩
    refine rn_draw (fun w' => Blk w' y (tcell t) 55 ∧ w'.rangeAt pb (po + k * 9) (pcell p)) [13] hMix ?_
    refine dr_pure 0 hT rfl (by decide +kernel) rfl rfl rfl ?_
    refine dr_val 1 t.pv rfl (by decide +kernel) rfl rfl (fun w' hk => val_load1 hT rfl rfl rfl (hk.1.cell rfl)) hS0 ?_
    refine dr_pure 2 hT rfl (by decide +kernel) rfl rfl rfl ?_
    refine dr_any 3 _ rfl (by decide +kernel) rfl rfl (fun w' => val_index k hT rfl (by rw [hpv']; rfl) rfl rfl rfl hlt w') ?_
    refine dr_pure 4 hT rfl (by decide +kernel) rfl rfl rfl ?_
    refine dr_val 5 (.int .i64 p.1) rfl (by decide +kernel) rfl rfl (fun w' hk => val_load1 hT rfl rfl rfl (hk.2 0 _ rfl)) hS0 ?_
    refine dr_pure 6 hT rfl (by decide +kernel) rfl rfl rfl ?_
    refine dr_val 7 t.pv rfl (by decide +kernel) rfl rfl (fun w' hk => val_load1 hT rfl rfl rfl (hk.1.cell rfl)) hS0 ?_
    refine dr_pure 8 hT rfl (by decide +kernel) rfl rfl rfl ?_
    refine dr_any 9 _ rfl (by decide +kernel) rfl rfl (fun w' => val_index k hT rfl (by rw [hpv']; rfl) rfl rfl rfl hlt w') ?_
    refine dr_pure 10 hT rfl (by decide +kernel) rfl rfl rfl ?_
    refine dr_val 11 (.agg (ints p.2).toArray) rfl (by decide +kernel) rfl rfl (fun w' hk => val_load _ hT rfl rfl (by rw [ints_length, h8]; rfl) (range_sub hk.2 1 (by simp [pcell]))) hS0 ?_
    refine dr_any 12 _ rfl (by decide +kernel) rfl rfl (fun w' => val_indexArr p.1.toNat hT rfl rfl rfl rfl (by omega) (by omega) w') ?_
    refine dr_op 13 rfl (by decide +kernel) rfl rfl (opTo_store (ints p.2) rfl rfl rfl rfl (by rw [ints_length, h8]; decide +kernel) hn6.drew (by rw [ints_length, h8, arr_length hfull]; omega) (ints_one _) ⟨fun hn => absurd (by simp) hn, ?_⟩)
    rw [show splice (arr fun i => (lookI (t.ps.take k) (i : Nat)).getD (readS S (i : Nat))) (0 + p.1.toNat * 8) (ints p.2) = arr fun i => (lookI (t.ps.take (k + 1)) (i : Nat)).getD (readS S (i : Nat)) by
      rw [Nat.zero_add, arr_set hfull (by omega) h8, enext]]
    have hn11 := hn6.drew.set (arr fun i => (lookI (t.ps.take (k + 1)) (i : Nat)).getD (readS S (i : Nat)))
    have ha11 := ha6.drew.other (arr fun i => (lookI (t.ps.take (k + 1)) (i : Nat)).getD (readS S (i : Nat))).toArray (c := x1) (by omega)
    have hkx : Keep [x1] w6 (w6.drew.setRow x1 (arr fun i => (lookI (t.ps.take (k + 1)) (i : Nat)).getD (readS S (i : Nat))).toArray) := ((Keep.refl _ _).drew).setRow _ _ (.inl (by simp))
    have hd11 := h6.keep hkx (fun k hk => by
      simp only [List.mem_singleton]
      intro e
      exact not_fp h6 hn6 (by decide) (e ▸ hk))
    have hs11 : StoreV _ s d := hkx.blk hs6 (by simp only [List.mem_singleton]; exact Blk.ne hs6 hn6 (by decide))
    have hy11 := hkx.blk hy6 (by simp only [List.mem_singleton]; exact Blk.ne hy6 hn6 (by decide))
    have hk11 := (hk6.drew).setRow x1 (arr fun i => (lookI (t.ps.take (k + 1)) (i : Nat)).getD (readS S (i : Nat))).toArray (.inr hle1)
    generalize (w6.drew.setRow x1 (arr fun i => (lookI (t.ps.take (k + 1)) (i : Nat)).getD (readS S (i : Nat))).toArray) = w11 at *
    refine dr_done (by decide +kernel) ?_
    repeat (first | refine pl_pure hT rfl rfl rfl ?_ | refine pl_nil ?_ | refine rn_seq ?_ | refine rn_plain ?_ | refine rn_block ?_ | refine rn_inBlock ?_ | refine rn_skip ?_ | refine rn_true rfl ?_ | refine rn_false rfl ?_ | refine rn_exit rfl ?_ | refine pl_not rfl rfl ?_)
    refine pl_val (.int .i64 ((k + 1 : Nat) : Int)) rfl rfl (val_int .i64 k 1 _ rfl rfl rfl (by simp only [intOp]; rw [wrap_i64 (by omega) (by omega)]; rfl) w11) ?_
    repeat (first | refine pl_pure hT rfl rfl rfl ?_ | refine pl_nil ?_ | refine rn_seq ?_ | refine rn_plain ?_ | refine rn_block ?_ | refine rn_inBlock ?_ | refine rn_skip ?_ | refine rn_true rfl ?_ | refine rn_false rfl ?_ | refine rn_exit rfl ?_ | refine pl_not rfl rfl ?_)
    refine rn_sub ?_ (ih (t.ps.length - (k + 1)) _ w11 (by omega) ⟨k + 1, rfl, hlt, rfl, hk11, hd11, hs11, hy11, ha11, hn11⟩)
    exact ⟨rfl, rfl, rfl, rfl, rfl, rfl, rfl, rfl, trivial⟩
  clear ih
  rw [List.take_of_length_le hge] at hn6
  refine pl_val (.bool false) rfl rfl (val_int .i64 _ _ _ rfl rfl rfl (by simp [intOp]; omega) w6) ?_
  repeat (first | refine pl_pure hT rfl rfl rfl ?_ | refine pl_nil ?_ | refine rn_seq ?_ | refine rn_plain ?_ | refine rn_block ?_ | refine rn_inBlock ?_ | refine rn_skip ?_ | refine rn_true rfl ?_ | refine rn_false rfl ?_ | refine rn_exit rfl ?_ | refine pl_not rfl rfl ?_)
  refine pl_op rfl rfl (opTo_call rfl rfl rfl rfl (by decide +kernel) ((gen_ret hs6 h6).mono ?_))
  rintro v w7 ⟨rfl, hk7⟩
  have h7 := h6.keep hk7 (by simp)
  have hs7 : StoreV w7 s d := hk7.blk hs6 (by simp)
  have hy7 := hk7.blk hy6 (by simp)
  have ha7 := hk7.blk ha6 (by simp)
  have hn7 := hk7.blk hn6 (by simp)
  have hk7 := hk6.tr0 hk7
  clear h6 hs6 hy6 ha6 hn6 hk6
  repeat (first | refine pl_pure hT rfl rfl rfl ?_ | refine pl_nil ?_ | refine rn_seq ?_ | refine rn_plain ?_ | refine rn_block ?_ | refine rn_inBlock ?_ | refine rn_skip ?_ | refine rn_true rfl ?_ | refine rn_false rfl ?_ | refine rn_exit rfl ?_ | refine pl_not rfl rfl ?_)
  refine pl_val t.pv rfl rfl (val_load1 hT rfl rfl rfl (hy7.cell rfl)) ?_
  repeat (first | refine pl_pure hT rfl rfl rfl ?_ | refine pl_nil ?_ | refine rn_seq ?_ | refine rn_plain ?_ | refine rn_block ?_ | refine rn_inBlock ?_ | refine rn_skip ?_ | refine rn_true rfl ?_ | refine rn_false rfl ?_ | refine rn_exit rfl ?_ | refine pl_not rfl rfl ?_)
  refine pl_val (.int .i64 t.k) rfl rfl (val_load1 hT rfl rfl rfl (hy7.cell rfl)) ?_
  generalize hm : (if t.k < 0 ∨ t.k ≥ (t.ps.length + 5 : Nat) then t.ps.length + 5 else t.k.toNat) = m
  have hml : m ≤ t.ps.length + 5 := by rw [← hm]; split <;> omega
  refine pl_op rfl rfl (opTo_call rfl rfl rfl rfl (by decide +kernel) ((commit_ret hs7 h7 (htp.keep hk7 (by simp)) (by omega) (by decide) hg0 (by omega) t.k hc m hm.symm).mono ?_))
  rintro v w8 ⟨rfl, wv8, h8, hk8, hf8⟩
  have hview := torn_view hG hc htp.wf m hml (maskB t.m)
  have hll := doDeeds_len ((deedsOf S t.ps).take m) (S, [])
  have hll2 : (doDeeds ((deedsOf S t.ps).take m) (S, [])).2.length < 1000000 := by
    rw [List.length_take] at hll
    simp only [List.length_nil] at hll
    have := Nat.min_le_left m (deedsOf S t.ps).length
    omega
  have hy8 := hk8.blk hy7 (not_fp h7 hy7 (by decide))
  have ha8 := hk8.blk ha7 (not_fp h7 ha7 (by decide))
  have hn8 := hk8.blk hn7 (not_fp h7 hn7 (by decide))
  have hk8 : Keep [] w w8 := hk7.trans hk8 fun k hk => .inr (Nat.le_trans hB (h7.lt k hk).1)
  clear h7 hs7 hy7 ha7 hn7 hk7
  repeat (first | refine pl_pure hT rfl rfl rfl ?_ | refine pl_nil ?_ | refine rn_seq ?_ | refine rn_plain ?_ | refine rn_block ?_ | refine rn_inBlock ?_ | refine rn_skip ?_ | refine rn_true rfl ?_ | refine rn_false rfl ?_ | refine rn_exit rfl ?_ | refine pl_not rfl rfl ?_)
  refine pl_val (.int .u64 t.m) rfl rfl (val_load1 hT rfl rfl rfl (hy8.cell rfl)) ?_
  refine pl_op rfl rfl (opTo_call rfl rfl rfl rfl (by decide +kernel) ((crash_ret h8 hll2 t.m).mono ?_))
  rintro v w9 ⟨rfl, h9, hk9⟩
  generalize settled (maskB t.m) (doDeeds ((deedsOf S t.ps).take m) (S, [])).2 (doDeeds ((deedsOf S t.ps).take m) (S, [])).1 = S9 at *
  have ha9 := hk9.blk ha8 (by simpa using Blk.ne ha8 h8.blk (by decide))
  have hn9 := hk9.blk hn8 (by simpa using Blk.ne hn8 h8.blk (by decide))
  have hk9 : Keep [] w w9 := hk8.trans hk9 fun k hk => .inr (by simp at hk; omega)
  clear h8 hy8 ha8 hn8 hk8
  repeat (first | refine pl_pure hT rfl rfl rfl ?_ | refine pl_nil ?_ | refine rn_seq ?_ | refine rn_plain ?_ | refine rn_block ?_ | refine rn_inBlock ?_ | refine rn_skip ?_ | refine rn_true rfl ?_ | refine rn_false rfl ?_ | refine rn_exit rfl ?_ | refine pl_not rfl rfl ?_)
  refine pl_op rfl rfl (opTo_call rfl rfl rfl rfl (by decide +kernel) ((open_ret d w9).mono ?_))
  rintro v w10 ⟨rfl, hs10, hk10⟩
  have h10 := h9.keep hk10 (by simp)
  have ha10 := hk10.blk ha9 (by simp)
  have hn10 := hk10.blk hn9 (by simp)
  have hk10 := hk9.tr0 hk10
  generalize w9.heap.size = s at *
  clear h9 ha9 hn9 hk9
  repeat (first | refine pl_pure hT rfl rfl rfl ?_ | refine pl_nil ?_ | refine rn_seq ?_ | refine rn_plain ?_ | refine rn_block ?_ | refine rn_inBlock ?_ | refine rn_skip ?_ | refine rn_true rfl ?_ | refine rn_false rfl ?_ | refine rn_exit rfl ?_ | refine pl_not rfl rfl ?_)
  refine rn_ind (fun q σ w' => ∃ j s, q = us.length - j ∧ j ≤ us.length ∧ σ = [(2, av), (7, .pointer (some ⟨d, 0, none⟩)), (8, .pointer (some ⟨s, 0, none⟩)), (10, .pointer (some ⟨x, 0, none⟩)), (11, .pointer (some ⟨x1, 0, none⟩)), (14, .int .i64 (genS S)), (15, .int .i64 (j : Nat))] ∧
      Keep [] w w' ∧ DiskV d w' d S9 [] (.slice none 0 0) ∧ StoreV w' s d ∧
      Blk w' x (arr fun p => readS S (p : Nat)) 48 ∧ Blk w' x1 (arr fun p => (lookI t.ps (p : Nat)).getD (readS S (p : Nat))) 48)
    (us.length - 0) _ ?_ ⟨0, s, rfl, Nat.zero_le _, rfl, hk10, h10, hs10, ha10, hn10⟩ ?_
  · exact ⟨rfl, rfl, rfl, rfl, rfl, rfl, rfl, trivial⟩
  clear hk10 h10 hs10 ha10 hn10
  clear s
  rintro q σ w6 ih ⟨j, s, hq, hj, rfl, hk6, h6, hs6, ha6, hn6⟩
  repeat (first | refine pl_pure hT rfl rfl rfl ?_ | refine pl_nil ?_ | refine rn_seq ?_ | refine rn_plain ?_ | refine rn_block ?_ | refine rn_inBlock ?_ | refine rn_skip ?_ | refine rn_true rfl ?_ | refine rn_false rfl ?_ | refine rn_exit rfl ?_ | refine pl_not rfl rfl ?_)
  refine pl_val (.int .i64 us.length) rfl rfl (val_pure hT (by rw [huv]; rfl) w6) ?_
  rcases Nat.lt_or_ge j us.length with hlt | hge
  · refine pl_val (.bool true) rfl rfl (val_int .i64 _ _ _ rfl rfl rfl (by simp [intOp]; omega) w6) ?_
    obtain ⟨u, hu⟩ : ∃ u, us[j]? = some u := ⟨_, List.getElem?_eq_getElem hlt⟩
    obtain ⟨b, o, cap, huv', hb, hur⟩ := (hus.keep hk6 (by simp)).at hu
    repeat (first | refine pl_pure hT rfl rfl rfl ?_ | refine pl_nil ?_ | refine rn_seq ?_ | refine rn_plain ?_ | refine rn_block ?_ | refine rn_inBlock ?_ | refine rn_skip ?_ | refine rn_true rfl ?_ | refine rn_false rfl ?_ | refine rn_exit rfl ?_ | refine pl_not rfl rfl ?_)
    refine pl_val _ rfl rfl (val_index j hT rfl (by rw [huv']; rfl) rfl rfl rfl hlt w6) ?_
    refine pl_val (.int .u64 u) rfl rfl (val_load1 hT rfl rfl rfl (hur 0 _ rfl)) ?_
    refine pl_op rfl rfl (opTo_call rfl rfl rfl rfl (by decide +kernel) ((crash_ret h6 (by decide) u).mono ?_))
    rintro v w7 ⟨rfl, h7, hk7⟩
    rw [settled_nil] at h7
    have ha7 := hk7.blk ha6 (by simpa using Blk.ne ha6 h6.blk (by decide))
    have hn7 := hk7.blk hn6 (by simpa using Blk.ne hn6 h6.blk (by decide))
    have hk7 : Keep [] w w7 := hk6.trans hk7 fun k hk => .inr (by simp at hk; omega)
    repeat (first | refine pl_pure hT rfl rfl rfl ?_ | refine pl_nil ?_ | refine rn_seq ?_ | refine rn_plain ?_ | refine rn_block ?_ | refine rn_inBlock ?_ | refine rn_skip ?_ | refine rn_true rfl ?_ | refine rn_false rfl ?_ | refine rn_exit rfl ?_ | refine pl_not rfl rfl ?_)
    refine pl_op rfl rfl (opTo_call rfl rfl rfl rfl (by decide +kernel) ((open_ret d w7).mono ?_))
    rintro v w8 ⟨rfl, hs8, hk8⟩
    repeat (first | refine pl_pure hT rfl rfl rfl ?_ | refine pl_nil ?_ | refine rn_seq ?_ | refine rn_plain ?_ | refine rn_block ?_ | refine rn_inBlock ?_ | refine rn_skip ?_ | refine rn_true rfl ?_ | refine rn_false rfl ?_ | refine rn_exit rfl ?_ | refine pl_not rfl rfl ?_)
    refine pl_val (.int .i64 ((j + 1 : Nat) : Int)) rfl rfl (val_int .i64 j 1 _ rfl rfl rfl (by simp only [intOp]; rw [wrap_i64 (by omega) (by omega)]; rfl) w8) ?_
    repeat (first | refine pl_pure hT rfl rfl rfl ?_ | refine pl_nil ?_ | refine rn_seq ?_ | refine rn_plain ?_ | refine rn_block ?_ | refine rn_inBlock ?_ | refine rn_skip ?_ | refine rn_true rfl ?_ | refine rn_false rfl ?_ | refine rn_exit rfl ?_ | refine pl_not rfl rfl ?_)
    refine rn_sub ?_ (ih (us.length - (j + 1)) _ w8 (by omega) ⟨j + 1, _, rfl, hlt, rfl, hk7.tr0 hk8, h7.keep hk8 (by simp), hs8, hk8.blk ha7 (by simp), hk8.blk hn7 (by simp)⟩)
    exact ⟨rfl, rfl, rfl, rfl, rfl, rfl, rfl, trivial⟩
  clear ih
  refine pl_val (.bool false) rfl rfl (val_int .i64 _ _ _ rfl rfl rfl (by simp [intOp]; omega) w6) ?_
  repeat (first | refine pl_pure hT rfl rfl rfl ?_ | refine pl_nil ?_ | refine rn_seq ?_ | refine rn_plain ?_ | refine rn_block ?_ | refine rn_inBlock ?_ | refine rn_skip ?_ | refine rn_true rfl ?_ | refine rn_false rfl ?_ | refine rn_exit rfl ?_ | refine pl_not rfl rfl ?_)
  refine pl_op rfl rfl (opTo_call rfl rfl rfl rfl (by decide +kernel) ((gen_ret hs6 h6).mono ?_))
  rintro v w7 ⟨rfl, hk7⟩
  have h7 := h6.keep hk7 (by simp)
  have hs7 : StoreV w7 s d := hk7.blk hs6 (by simp)
  have ha7 := hk7.blk ha6 (by simp)
  have hn7 := hk7.blk hn6 (by simp)
  have hk7 := hk6.tr0 hk7
  clear h6 hs6 ha6 hn6 hk6
  repeat (first | refine pl_pure hT rfl rfl rfl ?_ | refine pl_nil ?_ | refine rn_seq ?_ | refine rn_plain ?_ | refine rn_block ?_ | refine rn_inBlock ?_ | refine rn_skip ?_ | refine rn_true rfl ?_ | refine rn_false rfl ?_ | refine rn_exit rfl ?_ | refine pl_not rfl rfl ?_)
  refine pl_val (.bool (genS S9 == genS S)) rfl rfl (val_int .i64 _ _ _ rfl rfl rfl rfl w7) ?_
  repeat (first | refine pl_pure hT rfl rfl rfl ?_ | refine pl_nil ?_ | refine rn_seq ?_ | refine rn_plain ?_ | refine rn_block ?_ | refine rn_inBlock ?_ | refine rn_skip ?_ | refine rn_true rfl ?_ | refine rn_false rfl ?_ | refine rn_exit rfl ?_ | refine pl_not rfl rfl ?_)
  refine pl_op rfl rfl (opTo_call rfl rfl rfl rfl (by decide +kernel) ((gen_ret hs7 h7).mono ?_))
  rintro v w8 ⟨rfl, hk8⟩
  have h8 := h7.keep hk8 (by simp)
  have hs8 : StoreV w8 s d := hk8.blk hs7 (by simp)
  have ha8 := hk8.blk ha7 (by simp)
  have hn8 := hk8.blk hn7 (by simp)
  have hk8 := hk7.tr0 hk8
  clear h7 hs7 ha7 hn7 hk7
  repeat (first | refine pl_pure hT rfl rfl rfl ?_ | refine pl_nil ?_ | refine rn_seq ?_ | refine rn_plain ?_ | refine rn_block ?_ | refine rn_inBlock ?_ | refine rn_skip ?_ | refine rn_true rfl ?_ | refine rn_false rfl ?_ | refine rn_exit rfl ?_ | refine pl_not rfl rfl ?_)
  refine pl_val (.int .i64 (genS S + 1)) rfl rfl (val_int .i64 _ 1 _ rfl rfl rfl (by simp only [intOp]; rw [wrap_i64 (by omega) (by omega)]) w8) ?_
  refine pl_val (.bool (genS S9 == genS S + 1)) rfl rfl (val_int .i64 _ _ _ rfl rfl rfl rfl w8) ?_
  have hlk : Full fun i => (lookI t.ps (i : Nat)).getD (readS S (i : Nat)) := fun i => look_len htp.wf _ (readS_length hS _)
  have hS9 : S9.length = 272 := h8.len
  have ho : (genS S9 == genS S) = true ∧ (genS S9 == genS S + 1) = false ∧ (∀ i, readS S9 i = readS S i) ∨ (genS S9 == genS S) = false ∧ (genS S9 == genS S + 1) = true ∧ (∀ i, readS S9 i = (lookI t.ps i).getD (readS S i)) := by
    rcases hview with h | h
    · refine .inr ⟨?_, ?_, fun i => h.look hc i⟩
      · rw [h.gen]; simp; omega
      · rw [h.gen]; simp
    · refine .inl ⟨?_, ?_, h.read⟩
      · rw [h.gen]; simp
      · rw [h.gen]; simp; omega
  generalize (genS S9 == genS S) = old at *
  generalize (genS S9 == genS S + 1) = new at *
  repeat (first | refine pl_pure hT rfl rfl rfl ?_ | refine pl_nil ?_ | refine rn_seq ?_ | refine rn_plain ?_ | refine rn_block ?_ | refine rn_inBlock ?_ | refine rn_skip ?_ | refine rn_true rfl ?_ | refine rn_false rfl ?_ | refine rn_exit rfl ?_ | refine pl_not rfl rfl ?_)
  refine rn_ind (fun q σ w' => ∃ j, q = 14 - j ∧ j ≤ 14 ∧ σ = [(8, .pointer (some ⟨s, 0, none⟩)), (10, .pointer (some ⟨x, 0, none⟩)), (11, .pointer (some ⟨x1, 0, none⟩)), (16, .bool old), (17, .bool new), (18, .int .i64 (j : Nat))] ∧
      Keep [] w w' ∧ DiskV d w' d S9 [] (.slice none 0 0) ∧ StoreV w' s d ∧
      Blk w' x (arr fun p => readS S (p : Nat)) 48 ∧ Blk w' x1 (arr fun p => (lookI t.ps (p : Nat)).getD (readS S (p : Nat))) 48)
    (14 - 0) _ ?_ ⟨0, rfl, by decide, rfl, hk8, h8, hs8, ha8, hn8⟩ ?_
  · exact ⟨rfl, rfl, rfl, rfl, rfl, rfl, trivial⟩
  clear hk8 h8 hs8 ha8 hn8
  rintro q σ w6 ih ⟨j, hq, hj, rfl, hk6, h6, hs6, ha6, hn6⟩
  repeat (first | refine pl_pure hT rfl rfl rfl ?_ | refine pl_nil ?_ | refine rn_seq ?_ | refine rn_plain ?_ | refine rn_block ?_ | refine rn_inBlock ?_ | refine rn_skip ?_ | refine rn_true rfl ?_ | refine rn_false rfl ?_ | refine rn_exit rfl ?_ | refine pl_not rfl rfl ?_)
  rcases Nat.lt_or_ge j 14 with hlt | hge
  · refine pl_val (.bool true) rfl rfl (val_int .i64 _ _ _ rfl rfl rfl (by simp [intOp]; omega) w6) ?_
    have hr8 := readS_length hS9 (j : Nat)
    have hk0 : Keep [] w6 w6.drew := (Keep.refl _ _).drew
    have hrw : ∀ w', Keep [] w6 w' → w'.rangeAt x (0 + j * 8) (ints (readS S (j : Nat))) := fun w' hk => (hk.blk ha6 (by simp)).range (by rw [ints_length, hw8 j, Nat.zero_add]; exact arr_at hw8 hlt)
    have hrn : ∀ w', Keep [] w6 w' → w'.rangeAt x1 (0 + j * 8) (ints ((lookI t.ps (j : Nat)).getD (readS S (j : Nat)))) := fun w' hk => (hk.blk hn6 (by simp)).range (by rw [ints_length, hlk j, Nat.zero_add]; exact arr_at hlk hlt)
    repeat (first | refine pl_pure hT rfl rfl rfl ?_ | refine pl_nil ?_ | refine rn_seq ?_ | refine rn_plain ?_ | refine rn_block ?_ | refine rn_inBlock ?_ | refine rn_skip ?_ | refine rn_true rfl ?_ | refine rn_false rfl ?_ | refine rn_exit rfl ?_ | refine pl_not rfl rfl ?_)
    rcases ho with ⟨rfl, rfl, hrd⟩ | ⟨rfl, rfl, hrd⟩
    · refine rn_draw (fun w' => Keep [] w6 w') [] hMix ?_
      refine dr_pure 0 hT rfl (by decide +kernel) rfl rfl rfl ?_
      refine dr_pure 1 hT rfl (by decide +kernel) rfl rfl rfl ?_
      refine dr_pure 2 hT rfl (by decide +kernel) rfl rfl rfl ?_
      refine dr_pure 3 hT rfl (by decide +kernel) rfl rfl rfl ?_
      refine dr_pure 5 hT rfl (by decide +kernel) rfl rfl rfl ?_
      refine dr_any 6 _ rfl (by decide +kernel) rfl rfl (fun w' => val_indexArr j hT rfl rfl rfl rfl rfl hlt w') ?_
      refine dr_val 7 (.agg (ints (readS S (j : Nat))).toArray) rfl (by decide +kernel) rfl rfl (fun w' hk => val_load _ hT rfl rfl (by rw [ints_length, hw8 j]; rfl) (hrw w' hk)) hk0 ?_
      refine dr_op 4 rfl (by decide +kernel) rfl rfl (opTo_call rfl rfl rfl rfl (by decide +kernel) ((sread_ret (hk0.blk hs6 (by simp)) (h6.keep hk0 (by simp)) (j : Nat)).mono ?_))
      rintro v w7 ⟨rfl, hk7⟩
      have hk7 := hk0.tr0 hk7
      refine ⟨fun _ => hk7, ?_⟩
      refine dr_any 8 (.bool true) rfl (by decide +kernel) rfl rfl (fun w' => val_eqInts _ _ arrW rfl rfl rfl hr8 (hw8 j) _ (by rw [hrd]; simp) w') ?_
      refine dr_pure 9 hT rfl (by decide +kernel) rfl rfl rfl ?_
      refine dr_pure 10 hT rfl (by decide +kernel) rfl rfl rfl ?_
      refine dr_done (by decide +kernel) ?_
      repeat (first | refine pl_pure hT rfl rfl rfl ?_ | refine pl_nil ?_ | refine rn_seq ?_ | refine rn_plain ?_ | refine rn_block ?_ | refine rn_inBlock ?_ | refine rn_skip ?_ | refine rn_true rfl ?_ | refine rn_false rfl ?_ | refine rn_exit rfl ?_ | refine pl_not rfl rfl ?_)
      refine rn_draw (fun w' => True) [] hMix ?_
      refine dr_pure 0 hT rfl (by decide +kernel) rfl rfl rfl ?_
      refine dr_pure 1 hT rfl (by decide +kernel) rfl rfl rfl ?_
      refine dr_not 2 rfl (by decide +kernel) rfl rfl ?_
      refine dr_not 3 rfl (by decide +kernel) rfl rfl ?_
      refine dr_not 4 rfl (by decide +kernel) rfl rfl ?_
      refine dr_not 5 rfl (by decide +kernel) rfl rfl ?_
      refine dr_not 6 rfl (by decide +kernel) rfl rfl ?_
      refine dr_not 7 rfl (by decide +kernel) rfl rfl ?_
      refine dr_not 8 rfl (by decide +kernel) rfl rfl ?_
      refine dr_pure 9 hT rfl (by decide +kernel) rfl rfl rfl ?_
      refine dr_pure 10 hT rfl (by decide +kernel) rfl rfl rfl ?_
      refine dr_done (by decide +kernel) ?_
      have hk9 := hk7.drew
      generalize w7.drew = w9 at *
      repeat (first | refine pl_pure hT rfl rfl rfl ?_ | refine pl_nil ?_ | refine rn_seq ?_ | refine rn_plain ?_ | refine rn_block ?_ | refine rn_inBlock ?_ | refine rn_skip ?_ | refine rn_true rfl ?_ | refine rn_false rfl ?_ | refine rn_exit rfl ?_ | refine pl_not rfl rfl ?_)
      refine pl_val (.int .i64 ((j + 1 : Nat) : Int)) rfl rfl (val_int .i64 j 1 _ rfl rfl rfl (by simp only [intOp]; rw [wrap_i64 (by omega) (by omega)]; rfl) w9) ?_
      repeat (first | refine pl_pure hT rfl rfl rfl ?_ | refine pl_nil ?_ | refine rn_seq ?_ | refine rn_plain ?_ | refine rn_block ?_ | refine rn_inBlock ?_ | refine rn_skip ?_ | refine rn_true rfl ?_ | refine rn_false rfl ?_ | refine rn_exit rfl ?_ | refine pl_not rfl rfl ?_)
      refine rn_sub ?_ (ih (14 - (j + 1)) _ w9 (by omega) ⟨j + 1, rfl, hlt, rfl, hk6.tr0 hk9, h6.keep hk9 (by simp), hk9.blk hs6 (by simp), hk9.blk ha6 (by simp), hk9.blk hn6 (by simp)⟩)
      exact ⟨rfl, rfl, rfl, rfl, rfl, rfl, trivial⟩
    · refine rn_draw (fun w' => True) [] hMix ?_
      refine dr_pure 0 hT rfl (by decide +kernel) rfl rfl rfl ?_
      refine dr_pure 1 hT rfl (by decide +kernel) rfl rfl rfl ?_
      refine dr_not 2 rfl (by decide +kernel) rfl rfl ?_
      refine dr_not 3 rfl (by decide +kernel) rfl rfl ?_
      refine dr_not 4 rfl (by decide +kernel) rfl rfl ?_
      refine dr_not 5 rfl (by decide +kernel) rfl rfl ?_
      refine dr_not 6 rfl (by decide +kernel) rfl rfl ?_
      refine dr_not 7 rfl (by decide +kernel) rfl rfl ?_
      refine dr_not 8 rfl (by decide +kernel) rfl rfl ?_
      refine dr_pure 9 hT rfl (by decide +kernel) rfl rfl rfl ?_
      refine dr_pure 10 hT rfl (by decide +kernel) rfl rfl rfl ?_
      refine dr_done (by decide +kernel) ?_
      generalize w6.drew = w7 at *
      have hk1 : Keep [] w6 w7.drew := hk0.drew
      repeat (first | refine pl_pure hT rfl rfl rfl ?_ | refine pl_nil ?_ | refine rn_seq ?_ | refine rn_plain ?_ | refine rn_block ?_ | refine rn_inBlock ?_ | refine rn_skip ?_ | refine rn_true rfl ?_ | refine rn_false rfl ?_ | refine rn_exit rfl ?_ | refine pl_not rfl rfl ?_)
      refine rn_draw (fun w' => Keep [] w6 w') [] hMix ?_
      refine dr_pure 0 hT rfl (by decide +kernel) rfl rfl rfl ?_
      refine dr_pure 1 hT rfl (by decide +kernel) rfl rfl rfl ?_
      refine dr_pure 2 hT rfl (by decide +kernel) rfl rfl rfl ?_
      refine dr_pure 3 hT rfl (by decide +kernel) rfl rfl rfl ?_
      refine dr_pure 5 hT rfl (by decide +kernel) rfl rfl rfl ?_
      refine dr_any 6 _ rfl (by decide +kernel) rfl rfl (fun w' => val_indexArr j hT rfl rfl rfl rfl rfl hlt w') ?_
      refine dr_val 7 (.agg (ints ((lookI t.ps (j : Nat)).getD (readS S (j : Nat)))).toArray) rfl (by decide +kernel) rfl rfl (fun w' hk => val_load _ hT rfl rfl (by rw [ints_length, hlk j]; rfl) (hrn w' hk)) hk1 ?_
      refine dr_op 4 rfl (by decide +kernel) rfl rfl (opTo_call rfl rfl rfl rfl (by decide +kernel) ((sread_ret (hk1.blk hs6 (by simp)) (h6.keep hk1 (by simp)) (j : Nat)).mono ?_))
      rintro v w9 ⟨rfl, hk9⟩
      have hk9 := hk1.tr0 hk9
      refine ⟨fun _ => hk9, ?_⟩
      refine dr_any 8 (.bool true) rfl (by decide +kernel) rfl rfl (fun w' => val_eqInts _ _ arrW rfl rfl rfl hr8 (hlk j) _ (by rw [hrd]; simp) w') ?_
      refine dr_pure 9 hT rfl (by decide +kernel) rfl rfl rfl ?_
      refine dr_pure 10 hT rfl (by decide +kernel) rfl rfl rfl ?_
      refine dr_done (by decide +kernel) ?_
      repeat (first | refine pl_pure hT rfl rfl rfl ?_ | refine pl_nil ?_ | refine rn_seq ?_ | refine rn_plain ?_ | refine rn_block ?_ | refine rn_inBlock ?_ | refine rn_skip ?_ | refine rn_true rfl ?_ | refine rn_false rfl ?_ | refine rn_exit rfl ?_ | refine pl_not rfl rfl ?_)
      refine pl_val (.int .i64 ((j + 1 : Nat) : Int)) rfl rfl (val_int .i64 j 1 _ rfl rfl rfl (by simp only [intOp]; rw [wrap_i64 (by omega) (by omega)]; rfl) w9) ?_
      repeat (first | refine pl_pure hT rfl rfl rfl ?_ | refine pl_nil ?_ | refine rn_seq ?_ | refine rn_plain ?_ | refine rn_block ?_ | refine rn_inBlock ?_ | refine rn_skip ?_ | refine rn_true rfl ?_ | refine rn_false rfl ?_ | refine rn_exit rfl ?_ | refine pl_not rfl rfl ?_)
      refine rn_sub ?_ (ih (14 - (j + 1)) _ w9 (by omega) ⟨j + 1, rfl, hlt, rfl, hk6.tr0 hk9, h6.keep hk9 (by simp), hk9.blk hs6 (by simp), hk9.blk ha6 (by simp), hk9.blk hn6 (by simp)⟩)
      exact ⟨rfl, rfl, rfl, rfl, rfl, rfl, trivial⟩
  refine pl_val (.bool false) rfl rfl (val_int .i64 _ _ _ rfl rfl rfl (by simp [intOp]; omega) w6) ?_
  rcases ho with ⟨rfl, rfl, _⟩ | ⟨rfl, rfl, _⟩
  · repeat (first | refine pl_pure hT rfl rfl rfl ?_ | refine pl_nil ?_ | refine rn_seq ?_ | refine rn_plain ?_ | refine rn_block ?_ | refine rn_inBlock ?_ | refine rn_skip ?_ | refine rn_true rfl ?_ | refine rn_false rfl ?_ | refine rn_exit rfl ?_ | refine pl_not rfl rfl ?_)
    exact rn_ret Try.func7 (.inl ⟨_, rfl, rfl⟩) ⟨rfl, hk6⟩
  · repeat (first | refine pl_pure hT rfl rfl rfl ?_ | refine pl_nil ?_ | refine rn_seq ?_ | refine rn_plain ?_ | refine rn_block ?_ | refine rn_inBlock ?_ | refine rn_skip ?_ | refine rn_true rfl ?_ | refine rn_false rfl ?_ | refine rn_exit rfl ?_ | refine pl_not rfl rfl ?_)
    exact rn_ret Try.func7 (.inl ⟨_, rfl, rfl⟩) ⟨rfl, hk6⟩
end E
end Go.Proofs.Ytcecheleagljgaa
