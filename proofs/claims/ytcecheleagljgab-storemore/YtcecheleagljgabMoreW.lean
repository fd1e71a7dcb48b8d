/- The walk of StoreMore: whatever the steps, the pages and the deeds, it returns true, and turns nothing that was there. -/
import Derived.Test.YtcecheleagljgabArr
namespace Go.Proofs.Ytcecheleagljgab
set_option maxRecDepth 20000
namespace E
open Go.Proofs

def stepOf (pv : Value) (ps : List Pg) : SStep := ⟨0, 0, pv, ps, 0⟩
theorem built_step (a : Option Addr) (n c : Nat) (ps : List Pg) : Try.prog.built 28 [(2, Value.slice a n c)] = some (tcell (stepOf (.slice a n c) ps)).toArray := by kernel_rfl
theorem slice_stepOf (a : Option Addr) (n c : Nat) (ps : List Pg) : sliceCells Try.prog 22 1 [(0, Value.agg (tcell (stepOf (.slice a n c) ps)).toArray)] = some (28, (tcell (stepOf (.slice a n c) ps)).toArray) := by kernel_rfl

theorem maskB0 : maskB 0 0 = false := by decide +kernel

set_option maxHeartbeats 1600000 in
theorem more_law {w : World} {lv : Value} {st : List SStep} (hst : ArgT w.heap.size w lv st) {pv : Value} {ps : List Pg} (htp : Pgs w.heap.size w pv ps) (dd : Int) :
    Ret Try.prog 3 [lv, pv, .int .i64 dd] w fun v w' => v = .bool true ∧ Keep [] w w' := by
  refine ret_of 139 Try.func3 rfl rfl (by simp) ?_
  obtain ⟨la, lcap, hlv⟩ := hst.form
  obtain ⟨pa, pcap, hpv⟩ := htp.form
  repeat (first | refine pl_pure hT rfl rfl rfl ?_ | refine pl_nil ?_ | refine rn_seq ?_ | refine rn_plain ?_ | refine rn_block ?_ | refine rn_inBlock ?_ | refine rn_skip ?_ | refine rn_true rfl ?_ | refine rn_false rfl ?_ | refine rn_exit rfl ?_ | refine pl_not rfl rfl ?_)
  refine pl_op rfl rfl (opTo_call rfl rfl rfl rfl (by decide +kernel) ((storeBegun_ret w).mono ?_))
  rintro v w1 ⟨rfl, hk1⟩
  repeat (first | refine pl_pure hT rfl rfl rfl ?_ | refine pl_nil ?_ | refine rn_seq ?_ | refine rn_plain ?_ | refine rn_block ?_ | refine rn_inBlock ?_ | refine rn_skip ?_ | refine rn_true rfl ?_ | refine rn_false rfl ?_ | refine rn_exit rfl ?_ | refine pl_not rfl rfl ?_)
  refine pl_op rfl rfl (opTo_call rfl rfl rfl rfl (by decide +kernel) ((great_ret (hst.keep hk1 (by simp))).mono ?_))
  rintro v w1' ⟨rfl, b, rfl, hsm⟩
  cases b with
  | true =>
    repeat (first | refine pl_pure hT rfl rfl rfl ?_ | refine pl_nil ?_ | refine rn_seq ?_ | refine rn_plain ?_ | refine rn_block ?_ | refine rn_inBlock ?_ | refine rn_skip ?_ | refine rn_true rfl ?_ | refine rn_false rfl ?_ | refine rn_exit rfl ?_ | refine pl_not rfl rfl ?_)
    exact rn_ret Try.func3 (.inl ⟨_, rfl, rfl⟩) ⟨rfl, hk1⟩
  | false =>
  obtain ⟨h60, h30⟩ := hsm rfl
  clear hsm
  repeat (first | refine pl_pure hT rfl rfl rfl ?_ | refine pl_nil ?_ | refine rn_seq ?_ | refine rn_plain ?_ | refine rn_block ?_ | refine rn_inBlock ?_ | refine rn_skip ?_ | refine rn_true rfl ?_ | refine rn_false rfl ?_ | refine rn_exit rfl ?_ | refine pl_not rfl rfl ?_)
  refine pl_val _ rfl rfl (val_build _ rfl (by rw [hpv]; rfl) (built_step pa ps.length pcap ps) w1') ?_
  refine pl_op rfl rfl (opTo_buildSlice _ _ rfl rfl (slice_stepOf pa ps.length pcap ps) ?_)
  rw [← hpv]
  have hk2 := hk1.alloc (.cells (tcell (stepOf pv ps)).toArray 28)
  have hz2 := Blk.new w1' (tcell (stepOf pv ps)) 28
  have hsz2 : (w1'.alloc (.cells (tcell (stepOf pv ps)).toArray 28)).heap.size = w1'.heap.size + 1 := World.size_alloc _ _
  have hsz1 := hk1.size
  generalize (w1'.alloc (.cells (tcell (stepOf pv ps)).toArray 28)) = w2 at *
  have hone : ArgT (w1'.heap.size + 1) w2 (.slice (some ⟨w1'.heap.size, 0, none⟩) 1 1) [stepOf pv ps] :=
    ⟨⟨_, _, rfl, fun _ => ⟨_, _, rfl, Nat.lt_succ_self _, hz2.range rfl⟩⟩, by
      intro s hs
      simp at hs
      subst hs
      exact (htp.keep hk2 (by simp)).up (by omega) (by omega), by omega⟩
  refine pl_op rfl rfl (opTo_call rfl rfl rfl rfl (by decide +kernel) ((great_ret hone).mono ?_))
  rintro v w2' ⟨rfl, b, rfl, hsm⟩
  clear hone hz2 hsz2
  cases b with
  | true =>
    repeat (first | refine pl_pure hT rfl rfl rfl ?_ | refine pl_nil ?_ | refine rn_seq ?_ | refine rn_plain ?_ | refine rn_block ?_ | refine rn_inBlock ?_ | refine rn_skip ?_ | refine rn_true rfl ?_ | refine rn_false rfl ?_ | refine rn_exit rfl ?_ | refine pl_not rfl rfl ?_)
    exact rn_ret Try.func3 (.inl ⟨_, rfl, rfl⟩) ⟨rfl, hk2⟩
  | false =>
  have ht30 : ps.length ≤ 30 := (hsm rfl).2 (stepOf pv ps) (by simp)
  clear hsm hk1 hsz1
  repeat (first | refine pl_pure hT rfl rfl rfl ?_ | refine pl_nil ?_ | refine rn_seq ?_ | refine rn_plain ?_ | refine rn_block ?_ | refine rn_inBlock ?_ | refine rn_skip ?_ | refine rn_true rfl ?_ | refine rn_false rfl ?_ | refine rn_exit rfl ?_ | refine pl_not rfl rfl ?_)
  refine pl_op rfl rfl (opTo_call rfl rfl rfl rfl (by decide +kernel) ((check_ret (htp.keep hk2 (by simp)) (by omega)).mono ?_))
  rintro v w3 ⟨rfl, hk3⟩
  have hk3 := hk2.tr0 hk3
  clear hk2
  by_cases hc : chk ps = 0
  case neg =>
    refine pl_val (.bool true) rfl rfl (val_int .i64 _ 0 _ rfl rfl rfl (by simp [intOp, hc]) w3) ?_
    repeat (first | refine pl_pure hT rfl rfl rfl ?_ | refine pl_nil ?_ | refine rn_seq ?_ | refine rn_plain ?_ | refine rn_block ?_ | refine rn_inBlock ?_ | refine rn_skip ?_ | refine rn_true rfl ?_ | refine rn_false rfl ?_ | refine rn_exit rfl ?_ | refine pl_not rfl rfl ?_)
    exact rn_ret Try.func3 (.inl ⟨_, rfl, rfl⟩) ⟨rfl, hk3⟩
  refine pl_val (.bool false) rfl rfl (val_int .i64 _ 0 _ rfl rfl rfl (by simp [intOp, hc]) w3) ?_
  repeat (first | refine pl_pure hT rfl rfl rfl ?_ | refine pl_nil ?_ | refine rn_seq ?_ | refine rn_plain ?_ | refine rn_block ?_ | refine rn_inBlock ?_ | refine rn_skip ?_ | refine rn_true rfl ?_ | refine rn_false rfl ?_ | refine rn_exit rfl ?_ | refine pl_not rfl rfl ?_)
  refine pl_op rfl rfl (opTo_call rfl rfl rfl rfl (by decide +kernel) ((new_ret w3).mono ?_))
  rintro v w4 ⟨rfl, h4, hk4⟩
  have hB : w.heap.size ≤ w3.heap.size := hk3.size
  have hk4 := hk3.tr0 hk4
  generalize w3.heap.size = d at *
  clear hk3
  repeat (first | refine pl_pure hT rfl rfl rfl ?_ | refine pl_nil ?_ | refine rn_seq ?_ | refine rn_plain ?_ | refine rn_block ?_ | refine rn_inBlock ?_ | refine rn_skip ?_ | refine rn_true rfl ?_ | refine rn_false rfl ?_ | refine rn_exit rfl ?_ | refine pl_not rfl rfl ?_)
  refine pl_op rfl rfl (opTo_call rfl rfl rfl rfl (by decide +kernel) ((open_ret d w4).mono ?_))
  rintro v w5 ⟨rfl, hs5, hk5⟩
  have h5 := h4.keep hk5 (by simp)
  have hk5 := hk4.tr0 hk5
  generalize w4.heap.size = s at *
  clear hk4 h4
  repeat (first | refine pl_pure hT rfl rfl rfl ?_ | refine pl_nil ?_ | refine rn_seq ?_ | refine rn_plain ?_ | refine rn_block ?_ | refine rn_inBlock ?_ | refine rn_skip ?_ | refine rn_true rfl ?_ | refine rn_false rfl ?_ | refine rn_exit rfl ?_ | refine pl_not rfl rfl ?_)
  refine rn_ind (fun q σ w' => ∃ j S wv, q = st.length - j ∧ j ≤ st.length ∧ σ = [(0, lv), (1, pv), (2, .int .i64 dd), (7, .pointer (some ⟨d, 0, none⟩)), (8, .pointer (some ⟨s, 0, none⟩)), (9, .int .i64 (j : Nat))] ∧
      Keep [] w w' ∧ DiskV d w' d S [] wv ∧ StoreV w' s d ∧ Good S ∧ genS S ≤ j)
    (st.length - 0) _ ?_ ⟨0, S0, _, rfl, Nat.zero_le _, rfl, hk5, h5, hs5, good0, by rw [genS0]; decide⟩ ?_
  · exact ⟨rfl, rfl, rfl, rfl, rfl, rfl, trivial⟩
  clear h5 hs5 hk5
  rintro q σ w5 ih ⟨j, S, wv, hq, hj, rfl, hk5, h5, hs5, hG, hgj⟩
  have hg0 := genS_nonneg S
  repeat (first | refine pl_pure hT rfl rfl rfl ?_ | refine pl_nil ?_ | refine rn_seq ?_ | refine rn_plain ?_ | refine rn_block ?_ | refine rn_inBlock ?_ | refine rn_skip ?_ | refine rn_true rfl ?_ | refine rn_false rfl ?_ | refine rn_exit rfl ?_ | refine pl_not rfl rfl ?_)
  refine pl_val (.int .i64 st.length) rfl rfl (val_pure hT (by rw [hlv]; rfl) w5) ?_
  rcases Nat.lt_or_ge j st.length with hlt | hge
  · refine pl_val (.bool true) rfl rfl (val_int .i64 _ _ _ rfl rfl rfl (by simp [intOp]; omega) w5) ?_
    obtain ⟨r, hr⟩ : ∃ r, st[j]? = some r := ⟨_, List.getElem?_eq_getElem hlt⟩
    have hrm := List.mem_of_getElem? hr
    have hp5 := (hst.keep hk5 (by simp)).pgs r hrm
    have hl30 := h30 r hrm
    obtain ⟨b, o, cap, hlv', hb, hrr⟩ := (hst.keep hk5 (by simp)).at hr
    repeat (first | refine pl_pure hT rfl rfl rfl ?_ | refine pl_nil ?_ | refine rn_seq ?_ | refine rn_plain ?_ | refine rn_block ?_ | refine rn_inBlock ?_ | refine rn_skip ?_ | refine rn_true rfl ?_ | refine rn_false rfl ?_ | refine rn_exit rfl ?_ | refine pl_not rfl rfl ?_)
    refine pl_val _ rfl rfl (val_index j hT rfl (by rw [hlv']; rfl) rfl rfl rfl hlt w5) ?_
    repeat (first | refine pl_pure hT rfl rfl rfl ?_ | refine pl_nil ?_ | refine rn_seq ?_ | refine rn_plain ?_ | refine rn_block ?_ | refine rn_inBlock ?_ | refine rn_skip ?_ | refine rn_true rfl ?_ | refine rn_false rfl ?_ | refine rn_exit rfl ?_ | refine pl_not rfl rfl ?_)
    refine pl_val r.pv rfl rfl (val_load1 hT rfl rfl rfl (hrr 2 _ rfl)) ?_
    refine pl_op rfl rfl (opTo_call rfl rfl rfl rfl (by decide +kernel) ((check_ret hp5 (by omega)).mono ?_))
    rintro v w6 ⟨rfl, hk6⟩
    have h6 := h5.keep hk6 (by simp)
    have hs6 : StoreV w6 s d := hk6.blk hs5 (by simp)
    have hk6 := hk5.tr0 hk6
    by_cases hcr : chk r.ps = 0
    · refine pl_val (.bool true) rfl rfl (val_int .i64 _ 0 _ rfl rfl rfl (by simp [intOp, hcr]) w6) ?_
      have hp6 := (hst.keep hk6 (by simp)).pgs r hrm
      obtain ⟨b, o, cap, hlv', hb, hrr⟩ := (hst.keep hk6 (by simp)).at hr
      repeat (first | refine pl_pure hT rfl rfl rfl ?_ | refine pl_nil ?_ | refine rn_seq ?_ | refine rn_plain ?_ | refine rn_block ?_ | refine rn_inBlock ?_ | refine rn_skip ?_ | refine rn_true rfl ?_ | refine rn_false rfl ?_ | refine rn_exit rfl ?_ | refine pl_not rfl rfl ?_)
      refine pl_val _ rfl rfl (val_index j hT rfl (by rw [hlv']; rfl) rfl rfl rfl hlt w6) ?_
      repeat (first | refine pl_pure hT rfl rfl rfl ?_ | refine pl_nil ?_ | refine rn_seq ?_ | refine rn_plain ?_ | refine rn_block ?_ | refine rn_inBlock ?_ | refine rn_skip ?_ | refine rn_true rfl ?_ | refine rn_false rfl ?_ | refine rn_exit rfl ?_ | refine pl_not rfl rfl ?_)
      refine pl_val r.pv rfl rfl (val_load1 hT rfl rfl rfl (hrr 2 _ rfl)) ?_
      obtain ⟨⟨S2, hS2, hN2⟩, _⟩ := commit_view hG hcr hp6.wf
      refine pl_op rfl rfl (opTo_call rfl rfl rfl rfl (by decide +kernel) ((commit_ret hs6 h6 hp6 (by omega) (by decide) hg0 (by omega) (-1) hcr (r.ps.length + 5) (by simp)).mono ?_))
      rintro v w7 ⟨rfl, wv7, h7, hk7, hf7⟩
      rw [hS2] at h7
      replace h7 : DiskV d w7 d S2 [] wv7 := h7
      have hg2 := hN2.gen
      have hs7 : StoreV w7 s d := hk7.blk hs6 (not_fp h6 hs6 (by decide))
      have hk7 : Keep [] w w7 := hk6.trans hk7 fun k hk => .inr (Nat.le_trans hB (h6.lt k hk).1)
      repeat (first | refine pl_pure hT rfl rfl rfl ?_ | refine pl_nil ?_ | refine rn_seq ?_ | refine rn_plain ?_ | refine rn_block ?_ | refine rn_inBlock ?_ | refine rn_skip ?_ | refine rn_true rfl ?_ | refine rn_false rfl ?_ | refine rn_exit rfl ?_ | refine pl_not rfl rfl ?_)
      refine pl_val (.int .i64 ((j + 1 : Nat) : Int)) rfl rfl (val_int .i64 j 1 _ rfl rfl rfl (by simp only [intOp]; rw [wrap_i64 (by omega) (by omega)]; rfl) w7) ?_
      repeat (first | refine pl_pure hT rfl rfl rfl ?_ | refine pl_nil ?_ | refine rn_seq ?_ | refine rn_plain ?_ | refine rn_block ?_ | refine rn_inBlock ?_ | refine rn_skip ?_ | refine rn_true rfl ?_ | refine rn_false rfl ?_ | refine rn_exit rfl ?_ | refine pl_not rfl rfl ?_)
      refine rn_sub ?_ (ih (st.length - (j + 1)) _ w7 (by omega) ⟨j + 1, S2, wv7, rfl, hlt, rfl, hk7, h7, hs7, hN2.good, by omega⟩)
      exact ⟨rfl, rfl, rfl, rfl, rfl, rfl, trivial⟩
    · refine pl_val (.bool false) rfl rfl (val_int .i64 _ 0 _ rfl rfl rfl (by simp [intOp, hcr]) w6) ?_
      repeat (first | refine pl_pure hT rfl rfl rfl ?_ | refine pl_nil ?_ | refine rn_seq ?_ | refine rn_plain ?_ | refine rn_block ?_ | refine rn_inBlock ?_ | refine rn_skip ?_ | refine rn_true rfl ?_ | refine rn_false rfl ?_ | refine rn_exit rfl ?_ | refine pl_not rfl rfl ?_)
      refine pl_val (.int .i64 ((j + 1 : Nat) : Int)) rfl rfl (val_int .i64 j 1 _ rfl rfl rfl (by simp only [intOp]; rw [wrap_i64 (by omega) (by omega)]; rfl) w6) ?_
      repeat (first | refine pl_pure hT rfl rfl rfl ?_ | refine pl_nil ?_ | refine rn_seq ?_ | refine rn_plain ?_ | refine rn_block ?_ | refine rn_inBlock ?_ | refine rn_skip ?_ | refine rn_true rfl ?_ | refine rn_false rfl ?_ | refine rn_exit rfl ?_ | refine pl_not rfl rfl ?_)
      refine rn_sub ?_ (ih (st.length - (j + 1)) _ w6 (by omega) ⟨j + 1, S, wv, rfl, hlt, rfl, hk6, h6, hs6, hG, by omega⟩)
      exact ⟨rfl, rfl, rfl, rfl, rfl, rfl, trivial⟩
  refine pl_val (.bool false) rfl rfl (val_int .i64 _ _ _ rfl rfl rfl (by simp [intOp]; omega) w5) ?_
  clear ih
  have hg1 : genS S < 1000 := by omega
  clear hgj hge hj hq
  repeat (first | refine pl_pure hT rfl rfl rfl ?_ | refine pl_nil ?_ | refine rn_seq ?_ | refine rn_plain ?_ | refine rn_block ?_ | refine rn_inBlock ?_ | refine rn_skip ?_ | refine rn_true rfl ?_ | refine rn_false rfl ?_ | refine rn_exit rfl ?_ | refine pl_not rfl rfl ?_)
  refine pl_op rfl rfl (opTo_alloc _ rfl zero_arr ?_)
  have hk6 : Keep [] w5 (w5.alloc (.cells (arr fun _ => z8).toArray 38)) := (Keep.refl _ _).alloc _
  have ha6 := Blk.new w5 (arr fun _ => z8) 38
  generalize (w5.alloc (.cells (arr fun _ => z8).toArray 38)) = w6 at *
  have h6 := h5.keep hk6 (by simp)
  have hs6 : StoreV w6 s d := hk6.blk hs5 (by simp)
  have hk6 := hk5.tr0 hk6
  have hle := hk5.size
  generalize w5.heap.size = x at *
  clear h5 hs5 hk5
  have hS := hG.len
  repeat (first | refine pl_pure hT rfl rfl rfl ?_ | refine pl_nil ?_ | refine rn_seq ?_ | refine rn_plain ?_ | refine rn_block ?_ | refine rn_inBlock ?_ | refine rn_skip ?_ | refine rn_true rfl ?_ | refine rn_false rfl ?_ | refine rn_exit rfl ?_ | refine pl_not rfl rfl ?_)
  refine rn_ind (fun q σ w' => ∃ j, q = 14 - j ∧ j ≤ 14 ∧ σ = [(1, pv), (2, .int .i64 dd), (7, .pointer (some ⟨d, 0, none⟩)), (8, .pointer (some ⟨s, 0, none⟩)), (10, .pointer (some ⟨x, 0, none⟩)), (11, .int .i64 (j : Nat))] ∧
      Keep [] w w' ∧ DiskV d w' d S [] wv ∧ StoreV w' s d ∧ Blk w' x (arr fun p => if p < j then readS S (p : Nat) else z8) 38)
    (14 - 0) _ ?_ ⟨0, rfl, by decide, rfl, hk6, h6, hs6, by simpa using ha6⟩ ?_
  · exact ⟨rfl, rfl, rfl, rfl, rfl, rfl, trivial⟩
  clear hk6 h6 hs6 ha6
  rintro q σ w6 ih ⟨j, hq, hj, rfl, hk6, h6, hs6, ha6⟩
  repeat (first | refine pl_pure hT rfl rfl rfl ?_ | refine pl_nil ?_ | refine rn_seq ?_ | refine rn_plain ?_ | refine rn_block ?_ | refine rn_inBlock ?_ | refine rn_skip ?_ | refine rn_true rfl ?_ | refine rn_false rfl ?_ | refine rn_exit rfl ?_ | refine pl_not rfl rfl ?_)
  rcases Nat.lt_or_ge j 14 with hlt | hge
  · refine pl_val (.bool true) rfl rfl (val_int .i64 _ _ _ rfl rfl rfl (by simp [intOp]; omega) w6) ?_
    have hfull : Full fun p => if p < j then readS S (p : Nat) else z8 := fun i => by
      show (if i < j then readS S (i : Nat) else z8).length = 8
      split
      · exact readS_length hS _
      · rfl
    have h8 := readS_length hS (j : Nat)
    have enext : arr (setF (fun p => if p < j then readS S (p : Nat) else z8) j (readS S (j : Nat))) = arr fun p => if p < j + 1 then readS S (p : Nat) else z8 := arr_congr fun i hi => by
      simp only [setF]
      by_cases e : i = j
      · rw [if_pos e, if_pos (by omega), e]
      · rw [if_neg e]
        by_cases h' : i < j
        · rw [if_pos h', if_pos (by omega)]
        · rw [if_neg h', if_neg (by omega)]
    repeat (first | refine pl_pure hT rfl rfl rfl ?_ | refine pl_nil ?_ | refine rn_seq ?_ | refine rn_plain ?_ | refine rn_block ?_ | refine rn_inBlock ?_ | refine rn_skip ?_ | refine rn_true rfl ?_ | refine rn_false rfl ?_ | refine rn_exit rfl ?_ | refine pl_not rfl rfl ?_)
    refine pl_op rfl rfl (opTo_call rfl rfl rfl rfl (by decide +kernel) ((sread_ret hs6 h6 (j : Nat)).mono ?_))
    rintro v w9 ⟨rfl, hk9⟩
    have ha9 := hk9.blk ha6 (by simp)
    refine pl_val _ rfl rfl (val_indexArr j hT rfl rfl rfl rfl rfl hlt w9) ?_
    refine pl_op rfl rfl (opTo_store (ints (readS S (j : Nat))) rfl rfl rfl rfl (by rw [ints_length, h8]; decide +kernel) ha9 (by rw [ints_length, h8, arr_length hfull]; omega) (ints_one _) ?_)
    rw [show splice (arr fun p => if p < j then readS S (p : Nat) else z8) (0 + j * 8) (ints (readS S (j : Nat))) = arr fun p => if p < j + 1 then readS S (p : Nat) else z8 by
      rw [Nat.zero_add, arr_set hfull hlt h8, enext]]
    have ha10 := ha9.set (arr fun p => if p < j + 1 then readS S (p : Nat) else z8)
    have hkx : Keep [x] w9 (w9.setRow x (arr fun p => if p < j + 1 then readS S (p : Nat) else z8).toArray) := (Keep.refl _ _).setRow _ _ (.inl (by simp))
    have hd10 := (h6.keep hk9 (by simp)).keep hkx (fun k hk => by
      simp only [List.mem_singleton]
      intro e
      exact not_fp (h6.keep hk9 (by simp)) ha9 (by decide) (e ▸ hk))
    have hs10 : StoreV _ s d := hkx.blk (hk9.blk hs6 (by simp)) (by simp only [List.mem_singleton]; exact Blk.ne (hk9.blk hs6 (by simp)) ha9 (by decide))
    have hk10 := (hk6.tr0 hk9).setRow x (arr fun p => if p < j + 1 then readS S (p : Nat) else z8).toArray (.inr hle)
    generalize (w9.setRow x (arr fun p => if p < j + 1 then readS S (p : Nat) else z8).toArray) = w10 at *
    repeat (first | refine pl_pure hT rfl rfl rfl ?_ | refine pl_nil ?_ | refine rn_seq ?_ | refine rn_plain ?_ | refine rn_block ?_ | refine rn_inBlock ?_ | refine rn_skip ?_ | refine rn_true rfl ?_ | refine rn_false rfl ?_ | refine rn_exit rfl ?_ | refine pl_not rfl rfl ?_)
    refine pl_val (.int .i64 ((j + 1 : Nat) : Int)) rfl rfl (val_int .i64 j 1 _ rfl rfl rfl (by simp only [intOp]; rw [wrap_i64 (by omega) (by omega)]; rfl) w10) ?_
    repeat (first | refine pl_pure hT rfl rfl rfl ?_ | refine pl_nil ?_ | refine rn_seq ?_ | refine rn_plain ?_ | refine rn_block ?_ | refine rn_inBlock ?_ | refine rn_skip ?_ | refine rn_true rfl ?_ | refine rn_false rfl ?_ | refine rn_exit rfl ?_ | refine pl_not rfl rfl ?_)
    refine rn_sub ?_ (ih (14 - (j + 1)) _ w10 (by omega) ⟨j + 1, rfl, hlt, rfl, hk10, hd10, hs10, ha10⟩)
    exact ⟨rfl, rfl, rfl, rfl, rfl, rfl, trivial⟩
  have hj14 : j = 14 := by omega
  subst hj14
  clear ih hq hge hj
  refine pl_val (.bool false) rfl rfl (val_int .i64 _ _ _ rfl rfl rfl (by simp [intOp]) w6) ?_
  have ewas : arr (fun p => if p < 14 then readS S (p : Nat) else z8) = arr fun p => readS S (p : Nat) := arr_congr fun i hi => by rw [if_pos hi]
  rw [ewas] at ha6
  repeat (first | refine pl_pure hT rfl rfl rfl ?_ | refine pl_nil ?_ | refine rn_seq ?_ | refine rn_plain ?_ | refine rn_block ?_ | refine rn_inBlock ?_ | refine rn_skip ?_ | refine rn_true rfl ?_ | refine rn_false rfl ?_ | refine rn_exit rfl ?_ | refine pl_not rfl rfl ?_)
  have hw8 : Full fun p => readS S (p : Nat) := fun i => readS_length hS _
  refine pl_op rfl rfl (opTo_call rfl rfl rfl rfl (by decide +kernel) ((gen_ret hs6 h6).mono ?_))
  rintro v w7 ⟨rfl, hk7⟩
  have h7 := h6.keep hk7 (by simp)
  have hs7 : StoreV w7 s d := hk7.blk hs6 (by simp)
  have ha7 := hk7.blk ha6 (by simp)
  have hk7 := hk6.tr0 hk7
  clear h6 hs6 ha6 hk6
  repeat (first | refine pl_pure hT rfl rfl rfl ?_ | refine pl_nil ?_ | refine rn_seq ?_ | refine rn_plain ?_ | refine rn_block ?_ | refine rn_inBlock ?_ | refine rn_skip ?_ | refine rn_true rfl ?_ | refine rn_false rfl ?_ | refine rn_exit rfl ?_ | refine pl_not rfl rfl ?_)
  generalize hm : (if dd < 0 ∨ dd ≥ (ps.length + 5 : Nat) then ps.length + 5 else dd.toNat) = m
  obtain ⟨⟨S2, hS2, hN2⟩, htorn⟩ := commit_view hG hc htp.wf
  refine pl_op rfl rfl (opTo_call rfl rfl rfl rfl (by decide +kernel) ((commit_ret hs7 h7 (htp.keep hk7 (by simp)) (by omega) (by decide) hg0 (by omega) dd hc m hm.symm).mono ?_))
  rintro v w8 ⟨rfl, wv8, h8, hk8, hf8⟩
  have hs8 : StoreV w8 s d := hk8.blk hs7 (not_fp h7 hs7 (by decide))
  have ha8 := hk8.blk ha7 (not_fp h7 ha7 (by decide))
  have hk8 : Keep [] w w8 := hk7.trans hk8 fun k hk => .inr (Nat.le_trans hB (h7.lt k hk).1)
  clear h7 hs7 ha7 hk7
  by_cases hdn : dd < 0 ∨ dd ≥ (ps.length + 5 : Nat)
  case neg =>
    rw [decide_eq_false hdn]
    rw [if_neg hdn] at hm
    have hmlt : m < ps.length + 5 := by omega
    have hsame := (htorn m hmlt (maskB 0)).2 (fun h => by rw [maskB0] at h; exact absurd h.2 (by decide))
    have hll := doDeeds_len ((deedsOf S ps).take m) (S, [])
    have hll2 : (doDeeds ((deedsOf S ps).take m) (S, [])).2.length < 1000000 := by
      rw [List.length_take] at hll
      simp only [List.length_nil] at hll
      have := Nat.min_le_left m (deedsOf S ps).length
      omega
    repeat (first | refine pl_pure hT rfl rfl rfl ?_ | refine pl_nil ?_ | refine rn_seq ?_ | refine rn_plain ?_ | refine rn_block ?_ | refine rn_inBlock ?_ | refine rn_skip ?_ | refine rn_true rfl ?_ | refine rn_false rfl ?_ | refine rn_exit rfl ?_ | refine pl_not rfl rfl ?_)
    refine pl_val (.bool false) rfl rfl (val_int .i64 0 0 _ rfl rfl rfl rfl w8) ?_
    repeat (first | refine pl_pure hT rfl rfl rfl ?_ | refine pl_nil ?_ | refine rn_seq ?_ | refine rn_plain ?_ | refine rn_block ?_ | refine rn_inBlock ?_ | refine rn_skip ?_ | refine rn_true rfl ?_ | refine rn_false rfl ?_ | refine rn_exit rfl ?_ | refine pl_not rfl rfl ?_)
    refine pl_val (.bool false) rfl rfl (val_int .i64 dd 0 _ rfl rfl rfl (by simp [intOp]; omega) w8) ?_
    repeat (first | refine pl_pure hT rfl rfl rfl ?_ | refine pl_nil ?_ | refine rn_seq ?_ | refine rn_plain ?_ | refine rn_block ?_ | refine rn_inBlock ?_ | refine rn_skip ?_ | refine rn_true rfl ?_ | refine rn_false rfl ?_ | refine rn_exit rfl ?_ | refine pl_not rfl rfl ?_)
    refine pl_val (.int .i64 ps.length) rfl rfl (val_pure hT (by rw [hpv]; rfl) w8) ?_
    refine pl_val (.int .i64 ((ps.length + 2 : Nat) : Int)) rfl rfl (val_int .i64 ps.length 2 _ rfl rfl rfl (by simp only [intOp]; rw [wrap_i64 (by omega) (by omega)]; rfl) w8) ?_
    refine pl_val (.int .i64 ((ps.length + 5 : Nat) : Int)) rfl rfl (val_int .i64 ((ps.length + 2 : Nat) : Int) 3 _ rfl rfl rfl (by simp only [intOp]; rw [wrap_i64 (by omega) (by omega)]; rfl) w8) ?_
    refine pl_val (.bool false) rfl rfl (val_int .i64 dd _ _ rfl rfl rfl (by simp only [intOp]; rw [decide_eq_false (by omega)]) w8) ?_
    repeat (first | refine pl_pure hT rfl rfl rfl ?_ | refine pl_nil ?_ | refine rn_seq ?_ | refine rn_plain ?_ | refine rn_block ?_ | refine rn_inBlock ?_ | refine rn_skip ?_ | refine rn_true rfl ?_ | refine rn_false rfl ?_ | refine rn_exit rfl ?_ | refine pl_not rfl rfl ?_)
    refine pl_val (.bool false) rfl rfl (val_neBool false false _ (by decide +kernel) rfl rfl rfl rfl w8) ?_
    repeat (first | refine pl_pure hT rfl rfl rfl ?_ | refine pl_nil ?_ | refine rn_seq ?_ | refine rn_plain ?_ | refine rn_block ?_ | refine rn_inBlock ?_ | refine rn_skip ?_ | refine rn_true rfl ?_ | refine rn_false rfl ?_ | refine rn_exit rfl ?_ | refine pl_not rfl rfl ?_)
    refine pl_op rfl rfl (opTo_call rfl rfl rfl rfl (by decide +kernel) ((crash_ret h8 hll2 0).mono ?_))
    rintro v w9 ⟨rfl, h9, hk9⟩
    generalize settled (maskB 0) (doDeeds ((deedsOf S ps).take m) (S, [])).2 (doDeeds ((deedsOf S ps).take m) (S, [])).1 = S9 at *
    have hk9 : Keep [] w w9 := hk8.trans hk9 fun k hk => .inr (by simp at hk; omega)
    repeat (first | refine pl_pure hT rfl rfl rfl ?_ | refine pl_nil ?_ | refine rn_seq ?_ | refine rn_plain ?_ | refine rn_block ?_ | refine rn_inBlock ?_ | refine rn_skip ?_ | refine rn_true rfl ?_ | refine rn_false rfl ?_ | refine rn_exit rfl ?_ | refine pl_not rfl rfl ?_)
    refine pl_op rfl rfl (opTo_call rfl rfl rfl rfl (by decide +kernel) ((open_ret d w9).mono ?_))
    rintro v w10 ⟨rfl, hs10, hk10⟩
    refine pl_op rfl rfl (opTo_call rfl rfl rfl rfl (by decide +kernel) ((gen_ret hs10 (h9.keep hk10 (by simp))).mono ?_))
    rintro v w11 ⟨rfl, hk11⟩
    rw [hsame.gen]
    repeat (first | refine pl_pure hT rfl rfl rfl ?_ | refine pl_nil ?_ | refine rn_seq ?_ | refine rn_plain ?_ | refine rn_block ?_ | refine rn_inBlock ?_ | refine rn_skip ?_ | refine rn_true rfl ?_ | refine rn_false rfl ?_ | refine rn_exit rfl ?_ | refine pl_not rfl rfl ?_)
    refine pl_val (.bool true) rfl rfl (val_int .i64 _ _ _ rfl rfl rfl (by simp [intOp]) w11) ?_
    repeat (first | refine pl_pure hT rfl rfl rfl ?_ | refine pl_nil ?_ | refine rn_seq ?_ | refine rn_plain ?_ | refine rn_block ?_ | refine rn_inBlock ?_ | refine rn_skip ?_ | refine rn_true rfl ?_ | refine rn_false rfl ?_ | refine rn_exit rfl ?_ | refine pl_not rfl rfl ?_)
    exact rn_ret Try.func3 (.inl ⟨_, rfl, rfl⟩) ⟨rfl, (hk9.tr0 hk10).tr0 hk11⟩
  rw [decide_eq_true hdn]
  rw [if_pos hdn] at hm
  subst hm
  rw [hS2] at h8
  replace h8 : DiskV d w8 d S2 [] wv8 := h8
  have hg2 := hN2.gen
  have hlk : Full fun i => (lookI ps (i : Nat)).getD (readS S (i : Nat)) := fun i => look_len htp.wf _ (readS_length hS _)
  repeat (first | refine pl_pure hT rfl rfl rfl ?_ | refine pl_nil ?_ | refine rn_inBlock ?_ | refine rn_skip ?_ | refine rn_true rfl ?_ | refine rn_false rfl ?_ | refine rn_exit rfl ?_)
  repeat (first | refine pl_pure hT rfl rfl rfl ?_ | refine pl_nil ?_)
  refine rn_seq ?_
  refine rn_seq ?_
  refine rn_with (fun σ w' => σ = [(1, pv), (7, .pointer (some ⟨d, 0, none⟩)), (8, .pointer (some ⟨s, 0, none⟩)), (10, .pointer (some ⟨x, 0, none⟩)), (13, .bool true), (99, .bool false)] ∧ Keep [] w8 w') ?_ ?_
  · rintro σ w9 ⟨rfl, hk9⟩
    have h9 := h8.keep hk9 (by simp)
    have hs9 : StoreV w9 s d := hk9.blk hs8 (by simp)
    have ha9 := hk9.blk ha8 (by simp)
    have hk9 := hk8.tr0 hk9
    clear h8 hs8 ha8 hk8
    repeat (first | refine pl_pure hT rfl rfl rfl ?_ | refine pl_nil ?_ | refine rn_seq ?_ | refine rn_plain ?_ | refine rn_block ?_ | refine rn_inBlock ?_ | refine rn_skip ?_ | refine rn_true rfl ?_ | refine rn_false rfl ?_ | refine rn_exit rfl ?_ | refine pl_not rfl rfl ?_)
    refine rn_ind (fun q σ w' => ∃ j, q = 14 - j ∧ j ≤ 14 ∧ σ = [(1, pv), (8, .pointer (some ⟨s, 0, none⟩)), (10, .pointer (some ⟨x, 0, none⟩)), (15, .int .i64 (j : Nat))] ∧
        Keep [] w w' ∧ DiskV d w' d S2 [] wv8 ∧ StoreV w' s d ∧ Blk w' x (arr fun p => readS S (p : Nat)) 38)
      (14 - 0) _ ?_ ⟨0, rfl, by decide, rfl, hk9, h9, hs9, ha9⟩ ?_
    · exact ⟨rfl, rfl, rfl, rfl, trivial⟩
    clear hk9 h9 hs9 ha9
    rintro q σ w6 ih ⟨j, hq, hj, rfl, hk6, h6, hs6, ha6⟩
    repeat (first | refine pl_pure hT rfl rfl rfl ?_ | refine pl_nil ?_ | refine rn_seq ?_ | refine rn_plain ?_ | refine rn_block ?_ | refine rn_inBlock ?_ | refine rn_skip ?_ | refine rn_true rfl ?_ | refine rn_false rfl ?_ | refine rn_exit rfl ?_ | refine pl_not rfl rfl ?_)
    rcases Nat.lt_or_ge j 14 with hlt | hge
    case inr =>
      refine pl_val (.bool false) rfl rfl (val_int .i64 _ _ _ rfl rfl rfl (by simp [intOp]; omega) w6) ?_
      repeat (first | refine pl_pure hT rfl rfl rfl ?_ | refine pl_nil ?_ | refine rn_seq ?_ | refine rn_plain ?_ | refine rn_block ?_ | refine rn_inBlock ?_ | refine rn_skip ?_ | refine rn_true rfl ?_ | refine rn_false rfl ?_ | refine rn_exit rfl ?_ | refine pl_not rfl rfl ?_)
      exact rn_ret Try.func3 (.inl ⟨_, rfl, rfl⟩) ⟨rfl, hk6⟩
    refine pl_val (.bool true) rfl rfl (val_int .i64 _ _ _ rfl rfl rfl (by simp [intOp]; omega) w6) ?_
    have hr8 := readS_length hS (j : Nat)
    repeat (first | refine pl_pure hT rfl rfl rfl ?_ | refine pl_nil ?_ | refine rn_seq ?_ | refine rn_plain ?_ | refine rn_block ?_ | refine rn_inBlock ?_ | refine rn_skip ?_ | refine rn_true rfl ?_ | refine rn_false rfl ?_ | refine rn_exit rfl ?_ | refine pl_not rfl rfl ?_)
    refine pl_val _ rfl rfl (val_indexArr j hT rfl rfl rfl rfl rfl hlt w6) ?_
    refine pl_val (.agg (ints (readS S (j : Nat))).toArray) rfl rfl (val_load _ hT rfl rfl (by rw [ints_length, hr8]; rfl) (ha6.range (by rw [ints_length, hr8, Nat.zero_add]; exact arr_at hw8 hlt))) ?_
    refine pl_op rfl rfl (opTo_alloc _ rfl zero_words ?_)
    have hk7 : Keep [] w6 (w6.alloc (.cells (ints (List.replicate 8 0)).toArray 37)) := (Keep.refl _ _).alloc _
    have hx7 := Blk.new w6 (ints (List.replicate 8 0)) 37
    generalize (w6.alloc (.cells (ints (List.replicate 8 0)).toArray 37)) = w7 at *
    repeat (first | refine pl_pure hT rfl rfl rfl ?_ | refine pl_nil ?_ | refine rn_seq ?_ | refine rn_plain ?_ | refine rn_block ?_ | refine rn_inBlock ?_ | refine rn_skip ?_ | refine rn_true rfl ?_ | refine rn_false rfl ?_ | refine rn_exit rfl ?_ | refine pl_not rfl rfl ?_)
    refine pl_op rfl rfl (opTo_store _ rfl rfl rfl rfl (by rw [ints_length, hr8]; decide +kernel) hx7 (by rw [ints_length, hr8]; decide) (ints_one _) ?_)
    rw [splice_all (by rw [ints_length, hr8]; rfl)]
    have hk8 := hk7.setRow w6.heap.size (ints (readS S (j : Nat))).toArray (.inr (Nat.le_refl _))
    have hx8 := hx7.set (ints (readS S (j : Nat)))
    generalize (w7.setRow w6.heap.size (ints (readS S (j : Nat))).toArray) = w8 at *
    have h8 := h6.keep hk8 (by simp)
    have hs8 : StoreV w8 s d := hk8.blk hs6 (by simp)
    have ha8 := hk8.blk ha6 (by simp)
    have hk8 := hk6.tr0 hk8
    have hzle := hk6.size
    generalize w6.heap.size = z at *
    clear hk7 hx7 h6 hs6 ha6 hk6
    repeat (first | refine pl_pure hT rfl rfl rfl ?_ | refine pl_nil ?_ | refine rn_seq ?_ | refine rn_plain ?_ | refine rn_block ?_ | refine rn_inBlock ?_ | refine rn_skip ?_ | refine rn_true rfl ?_ | refine rn_false rfl ?_ | refine rn_exit rfl ?_ | refine pl_not rfl rfl ?_)
    refine rn_ind (fun q σ w' => ∃ k, q = ps.length - k ∧ k ≤ ps.length ∧ σ = [(1, pv), (8, .pointer (some ⟨s, 0, none⟩)), (10, .pointer (some ⟨x, 0, none⟩)), (15, .int .i64 (j : Nat)), (16, .pointer (some ⟨z, 0, none⟩)), (17, .int .i64 (k : Nat))] ∧
        Keep [] w w' ∧ DiskV d w' d S2 [] wv8 ∧ StoreV w' s d ∧ Blk w' x (arr fun p => readS S (p : Nat)) 38 ∧ Blk w' z (ints ((lookI (ps.take k) (j : Nat)).getD (readS S (j : Nat)))) 37)
      (ps.length - 0) _ ?_ ⟨0, rfl, Nat.zero_le _, rfl, hk8, h8, hs8, ha8, hx8⟩ ?_
    · exact ⟨rfl, rfl, rfl, rfl, rfl, rfl, trivial⟩
    clear hk8 h8 hs8 ha8 hx8
    rintro q' σ w8 ih' ⟨k, hq', hk, rfl, hk8, h8, hs8, ha8, hx8⟩
    repeat (first | refine pl_pure hT rfl rfl rfl ?_ | refine pl_nil ?_ | refine rn_seq ?_ | refine rn_plain ?_ | refine rn_block ?_ | refine rn_inBlock ?_ | refine rn_skip ?_ | refine rn_true rfl ?_ | refine rn_false rfl ?_ | refine rn_exit rfl ?_ | refine pl_not rfl rfl ?_)
    refine pl_val (.int .i64 ps.length) rfl rfl (val_pure hT (by rw [hpv]; rfl) w8) ?_
    have hl8 := look_len (ps := ps.take k) (fun p hp => htp.wf p (List.mem_of_mem_take hp)) ((j : Nat) : Int) (readS_length hS (j : Nat))
    rcases Nat.lt_or_ge k ps.length with hklt | hkge
    · refine pl_val (.bool true) rfl rfl (val_int .i64 _ _ _ rfl rfl rfl (by simp [intOp]; omega) w8) ?_
      obtain ⟨p, hp⟩ : ∃ p, ps[k]? = some p := ⟨_, List.getElem?_eq_getElem hklt⟩
      have hp8 := htp.wf p (List.mem_of_getElem? hp)
      obtain ⟨pb, po, pcap', hpv', _, hpr⟩ := (htp.keep hk8 (by simp)).at hp
      repeat (first | refine pl_pure hT rfl rfl rfl ?_ | refine pl_nil ?_ | refine rn_seq ?_ | refine rn_plain ?_ | refine rn_block ?_ | refine rn_inBlock ?_ | refine rn_skip ?_ | refine rn_true rfl ?_ | refine rn_false rfl ?_ | refine rn_exit rfl ?_ | refine pl_not rfl rfl ?_)
      refine pl_val _ rfl rfl (val_index k hT rfl (by rw [hpv']; rfl) rfl rfl rfl hklt w8) ?_
      repeat (first | refine pl_pure hT rfl rfl rfl ?_ | refine pl_nil ?_ | refine rn_seq ?_ | refine rn_plain ?_ | refine rn_block ?_ | refine rn_inBlock ?_ | refine rn_skip ?_ | refine rn_true rfl ?_ | refine rn_false rfl ?_ | refine rn_exit rfl ?_ | refine pl_not rfl rfl ?_)
      refine pl_val (.int .i64 p.1) rfl rfl (val_load1 hT rfl rfl rfl (hpr 0 _ rfl)) ?_
      repeat (first | refine pl_pure hT rfl rfl rfl ?_ | refine pl_nil ?_ | refine rn_seq ?_ | refine rn_plain ?_ | refine rn_block ?_ | refine rn_inBlock ?_ | refine rn_skip ?_ | refine rn_true rfl ?_ | refine rn_false rfl ?_ | refine rn_exit rfl ?_ | refine pl_not rfl rfl ?_)
      by_cases hpe : p.1 = (j : Int)
      · refine pl_val (.bool true) rfl rfl (val_int .i64 _ _ _ rfl rfl rfl (by simp [intOp, hpe]) w8) ?_
        repeat (first | refine pl_pure hT rfl rfl rfl ?_ | refine pl_nil ?_ | refine rn_seq ?_ | refine rn_plain ?_ | refine rn_block ?_ | refine rn_inBlock ?_ | refine rn_skip ?_ | refine rn_true rfl ?_ | refine rn_false rfl ?_ | refine rn_exit rfl ?_ | refine pl_not rfl rfl ?_)
        refine pl_val _ rfl rfl (val_index k hT rfl (by rw [hpv']; rfl) rfl rfl rfl hklt w8) ?_
        repeat (first | refine pl_pure hT rfl rfl rfl ?_ | refine pl_nil ?_ | refine rn_seq ?_ | refine rn_plain ?_ | refine rn_block ?_ | refine rn_inBlock ?_ | refine rn_skip ?_ | refine rn_true rfl ?_ | refine rn_false rfl ?_ | refine rn_exit rfl ?_ | refine pl_not rfl rfl ?_)
        refine pl_val (.agg (ints p.2).toArray) rfl rfl (val_load _ hT rfl rfl (by rw [ints_length, hp8]; rfl) (range_sub hpr 1 (by simp [pcell]))) ?_
        refine pl_op rfl rfl (opTo_store _ rfl rfl rfl rfl (by rw [ints_length, hp8]; decide +kernel) hx8 (by rw [ints_length, ints_length, hp8, hl8]; decide) (ints_one _) ?_)
        rw [splice_all (by rw [ints_length, ints_length, hp8, hl8])]
        have hk9 := hk8.setRow z (ints p.2).toArray (.inr hzle)
        have hx9 := hx8.set (ints p.2)
        have hkx : Keep [z] w8 (w8.setRow z (ints p.2).toArray) := (Keep.refl _ _).setRow _ _ (.inl (by simp))
        have hd9 := h8.keep hkx (fun k hk => by
          simp only [List.mem_singleton]
          intro e
          exact not_fp h8 hx8 (by decide) (e ▸ hk))
        have hs9 : StoreV _ s d := hkx.blk hs8 (by simp only [List.mem_singleton]; exact Blk.ne hs8 hx8 (by decide))
        have ha9 := hkx.blk ha8 (by simp only [List.mem_singleton]; exact Blk.ne ha8 hx8 (by decide))
        generalize (w8.setRow z (ints p.2).toArray) = w9 at *
        repeat (first | refine pl_pure hT rfl rfl rfl ?_ | refine pl_nil ?_ | refine rn_seq ?_ | refine rn_plain ?_ | refine rn_block ?_ | refine rn_inBlock ?_ | refine rn_skip ?_ | refine rn_true rfl ?_ | refine rn_false rfl ?_ | refine rn_exit rfl ?_ | refine pl_not rfl rfl ?_)
        refine pl_val (.int .i64 ((k + 1 : Nat) : Int)) rfl rfl (val_int .i64 k 1 _ rfl rfl rfl (by simp only [intOp]; rw [wrap_i64 (by omega) (by omega)]; rfl) w9) ?_
        repeat (first | refine pl_pure hT rfl rfl rfl ?_ | refine pl_nil ?_ | refine rn_seq ?_ | refine rn_plain ?_ | refine rn_block ?_ | refine rn_inBlock ?_ | refine rn_skip ?_ | refine rn_true rfl ?_ | refine rn_false rfl ?_ | refine rn_exit rfl ?_ | refine pl_not rfl rfl ?_)
        refine rn_sub ?_ (ih' (ps.length - (k + 1)) _ w9 (by omega) ⟨k + 1, rfl, hklt, rfl, hk9, hd9, hs9, ha9, by rw [lookI_take hp, if_pos hpe]; exact hx9⟩)
        exact ⟨rfl, rfl, rfl, rfl, rfl, rfl, trivial⟩
      · refine pl_val (.bool false) rfl rfl (val_int .i64 _ _ _ rfl rfl rfl (by simp [intOp, hpe]) w8) ?_
        repeat (first | refine pl_pure hT rfl rfl rfl ?_ | refine pl_nil ?_ | refine rn_seq ?_ | refine rn_plain ?_ | refine rn_block ?_ | refine rn_inBlock ?_ | refine rn_skip ?_ | refine rn_true rfl ?_ | refine rn_false rfl ?_ | refine rn_exit rfl ?_ | refine pl_not rfl rfl ?_)
        refine pl_val (.int .i64 ((k + 1 : Nat) : Int)) rfl rfl (val_int .i64 k 1 _ rfl rfl rfl (by simp only [intOp]; rw [wrap_i64 (by omega) (by omega)]; rfl) w8) ?_
        repeat (first | refine pl_pure hT rfl rfl rfl ?_ | refine pl_nil ?_ | refine rn_seq ?_ | refine rn_plain ?_ | refine rn_block ?_ | refine rn_inBlock ?_ | refine rn_skip ?_ | refine rn_true rfl ?_ | refine rn_false rfl ?_ | refine rn_exit rfl ?_ | refine pl_not rfl rfl ?_)
        refine rn_sub ?_ (ih' (ps.length - (k + 1)) _ w8 (by omega) ⟨k + 1, rfl, hklt, rfl, hk8, h8, hs8, ha8, by rw [lookI_take hp, if_neg hpe]; exact hx8⟩)
        exact ⟨rfl, rfl, rfl, rfl, rfl, rfl, trivial⟩
    refine pl_val (.bool false) rfl rfl (val_int .i64 _ _ _ rfl rfl rfl (by simp [intOp]; omega) w8) ?_
    clear ih'
    rw [List.take_of_length_le hkge, ← hN2.look hc] at hx8
    have hr9 := readS_length hN2.good.len (j : Nat)
    repeat (first | refine pl_pure hT rfl rfl rfl ?_ | refine pl_nil ?_ | refine rn_seq ?_ | refine rn_plain ?_ | refine rn_block ?_ | refine rn_inBlock ?_ | refine rn_skip ?_ | refine rn_true rfl ?_ | refine rn_false rfl ?_ | refine rn_exit rfl ?_ | refine pl_not rfl rfl ?_)
    have hk0 : Keep [] w8 w8.drew := (Keep.refl _ _).drew
    refine rn_draw (fun w' => Keep [] w8 w') [] hMix ?_
    refine dr_pure 0 hT rfl (by decide +kernel) rfl rfl rfl ?_
    refine dr_pure 1 hT rfl (by decide +kernel) rfl rfl rfl ?_
    refine dr_val 3 (.agg (ints (readS S2 (j : Nat))).toArray) rfl (by decide +kernel) rfl rfl (fun w' hk => val_load _ hT rfl rfl (by rw [ints_length, hr9]; rfl) ((hk.blk hx8 (by simp)).range (by simp))) hk0 ?_
    refine dr_op 2 rfl (by decide +kernel) rfl rfl (opTo_call rfl rfl rfl rfl (by decide +kernel) ((sread_ret (hk0.blk hs8 (by simp)) (h8.keep hk0 (by simp)) (j : Nat)).mono ?_))
    rintro v w9 ⟨rfl, hk9⟩
    have hk9 := hk0.tr0 hk9
    refine ⟨fun _ => hk9, ?_⟩
    refine dr_any 4 (.bool false) rfl (by decide +kernel) rfl rfl (fun w' => val_neInts _ _ arrW rfl rfl rfl hr9 hr9 _ (by simp) w') ?_
    refine dr_done (by decide +kernel) ?_
    repeat (first | refine pl_pure hT rfl rfl rfl ?_ | refine pl_nil ?_ | refine rn_seq ?_ | refine rn_plain ?_ | refine rn_block ?_ | refine rn_inBlock ?_ | refine rn_skip ?_ | refine rn_true rfl ?_ | refine rn_false rfl ?_ | refine rn_exit rfl ?_ | refine pl_not rfl rfl ?_)
    refine pl_val (.int .i64 ((j + 1 : Nat) : Int)) rfl rfl (val_int .i64 j 1 _ rfl rfl rfl (by simp only [intOp]; rw [wrap_i64 (by omega) (by omega)]; rfl) w9) ?_
    repeat (first | refine pl_pure hT rfl rfl rfl ?_ | refine pl_nil ?_ | refine rn_seq ?_ | refine rn_plain ?_ | refine rn_block ?_ | refine rn_inBlock ?_ | refine rn_skip ?_ | refine rn_true rfl ?_ | refine rn_false rfl ?_ | refine rn_exit rfl ?_ | refine pl_not rfl rfl ?_)
    refine rn_sub ?_ (ih (14 - (j + 1)) _ w9 (by omega) ⟨j + 1, rfl, hlt, rfl, hk8.tr0 hk9, h8.keep hk9 (by simp), hk9.blk hs8 (by simp), hk9.blk ha8 (by simp)⟩)
    exact ⟨rfl, rfl, rfl, rfl, trivial⟩
  intro hjoin
  refine rn_plain ?_
  refine pl_pure hT rfl rfl rfl ?_
  refine pl_val (.bool false) rfl rfl (val_int .i64 0 0 _ rfl rfl rfl rfl w8) ?_
  by_cases h0 : dd < 0
  · repeat (first | refine pl_pure hT rfl rfl rfl ?_)
    refine pl_val (.bool true) rfl rfl (val_int .i64 dd 0 _ rfl rfl rfl (by simp [intOp, h0]) w8) ?_
    repeat (first | refine pl_pure hT rfl rfl rfl ?_ | refine pl_not rfl rfl ?_)
    refine pl_val (.bool false) rfl rfl (val_neBool true true _ (by decide +kernel) rfl rfl rfl rfl w8) ?_
    repeat (first | refine pl_pure hT rfl rfl rfl ?_ | refine pl_not rfl rfl ?_)
    refine pl_op rfl rfl (opTo_call rfl rfl rfl rfl (by decide +kernel) ((gen_ret hs8 h8).mono ?_))
    rintro v w9 ⟨rfl, hk9⟩
    repeat (first | refine pl_pure hT rfl rfl rfl ?_ | refine pl_not rfl rfl ?_)
    refine pl_val (.int .i64 (genS S + 1)) rfl rfl (val_int .i64 _ 1 _ rfl rfl rfl (by simp only [intOp]; rw [wrap_i64 (by omega) (by omega)]) w9) ?_
    refine pl_val (.bool false) rfl rfl (val_int .i64 _ _ _ rfl rfl rfl (by simp [intOp, hg2]) w9) ?_
    repeat (first | refine pl_pure hT rfl rfl rfl ?_ | refine pl_not rfl rfl ?_ | refine pl_nil ?_)
    refine rn_sub ?_ (hjoin _ w9 ⟨rfl, hk9⟩)
    exact ⟨rfl, rfl, rfl, rfl, rfl, rfl, trivial⟩
  · have h5' : dd ≥ (ps.length + 5 : Nat) := by omega
    repeat (first | refine pl_pure hT rfl rfl rfl ?_)
    refine pl_val (.bool false) rfl rfl (val_int .i64 dd 0 _ rfl rfl rfl (by simp [intOp, h0]) w8) ?_
    repeat (first | refine pl_pure hT rfl rfl rfl ?_)
    refine pl_val (.int .i64 ps.length) rfl rfl (val_pure hT (by rw [hpv]; rfl) w8) ?_
    refine pl_val (.int .i64 ((ps.length + 2 : Nat) : Int)) rfl rfl (val_int .i64 ps.length 2 _ rfl rfl rfl (by simp only [intOp]; rw [wrap_i64 (by omega) (by omega)]; rfl) w8) ?_
    refine pl_val (.int .i64 ((ps.length + 5 : Nat) : Int)) rfl rfl (val_int .i64 ((ps.length + 2 : Nat) : Int) 3 _ rfl rfl rfl (by simp only [intOp]; rw [wrap_i64 (by omega) (by omega)]; rfl) w8) ?_
    refine pl_val (.bool true) rfl rfl (val_int .i64 dd _ _ rfl rfl rfl (by simp only [intOp]; rw [decide_eq_true h5']) w8) ?_
    repeat (first | refine pl_pure hT rfl rfl rfl ?_ | refine pl_not rfl rfl ?_)
    refine pl_val (.bool false) rfl rfl (val_neBool true true _ (by decide +kernel) rfl rfl rfl rfl w8) ?_
    repeat (first | refine pl_pure hT rfl rfl rfl ?_ | refine pl_not rfl rfl ?_)
    refine pl_op rfl rfl (opTo_call rfl rfl rfl rfl (by decide +kernel) ((gen_ret hs8 h8).mono ?_))
    rintro v w9 ⟨rfl, hk9⟩
    repeat (first | refine pl_pure hT rfl rfl rfl ?_ | refine pl_not rfl rfl ?_)
    refine pl_val (.int .i64 (genS S + 1)) rfl rfl (val_int .i64 _ 1 _ rfl rfl rfl (by simp only [intOp]; rw [wrap_i64 (by omega) (by omega)]) w9) ?_
    refine pl_val (.bool false) rfl rfl (val_int .i64 _ _ _ rfl rfl rfl (by simp [intOp, hg2]) w9) ?_
    repeat (first | refine pl_pure hT rfl rfl rfl ?_ | refine pl_not rfl rfl ?_ | refine pl_nil ?_)
    refine rn_sub ?_ (hjoin _ w9 ⟨rfl, hk9⟩)
    exact ⟨rfl, rfl, rfl, rfl, rfl, rfl, trivial⟩
end E
end Go.Proofs.Ytcecheleagljgab
