/- The document's pages: pagesOf, PagesFault. -/
import Derived.Test.YtcnjmjdnlhiflabArr
namespace Go.Proofs.Ytcnjmjdnlhiflab
set_option maxRecDepth 20000
namespace E
open Go.Proofs

theorem built_rpg (i : Int) {ws : List Int} (h : ws.length = 8) : Try.prog.built 58 [(0, Value.int .i64 i), (1, Value.agg (ints ws).toArray)] = some (pcell (i, ws)).toArray := by
  obtain ⟨a, b, c, d, e, f, g, j, rfl⟩ := list8 h
  kernel_rfl
theorem slice_rpg (i : Int) {ws : List Int} (h : ws.length = 8) : sliceCells Try.prog 56 1 [(0, Value.agg (pcell (i, ws)).toArray)] = some (58, (pcell (i, ws)).toArray) := by
  obtain ⟨a, b, c, d, e, f, g, j, rfl⟩ := list8 h
  kernel_rfl

theorem own_pgs {w : World} {B : Nat} {v : Value} {ps : List Pg} (h : Own w B 58 9 v ps.length (pcells ps)) (hwf : ∀ p ∈ ps, p.2.length = 8) : Pgs w.heap.size w v ps := by
  obtain ⟨a, cap, hv⟩ := h.form
  refine ⟨⟨a, cap, hv, fun hne => ?_⟩, hwf, Nat.le_refl _⟩
  have h0 : 0 < ps.length := List.length_pos_iff.2 hne
  obtain ⟨g, cap', hv', hr⟩ := h.range (q := 0) (cs := pcells ps) (by simp) h0
  rw [hv] at hv'
  injection hv' with e1 e2 e3
  refine ⟨g, 0, e1, (h.lt g ?_).2, hr⟩
  rw [hv, e1]
  rfl

theorem contains_at {ps : List Pg} {j k : Nat} {p : Pg} {x : Int} (hp : ps[k]? = some p) (hk : k < j) (e : p.1 = x) : ((ps.take j).map (·.1)).contains x = true := by
  have hlt : k < ps.length := (List.getElem?_eq_some_iff.1 hp).1
  rw [List.contains_iff_mem]
  refine List.mem_map.2 ⟨p, ?_, e⟩
  refine List.mem_of_getElem? (i := k) ?_
  rw [List.getElem?_take, if_pos hk]
  exact hp
theorem contains_not {ps : List Pg} {j : Nat} {x : Int} (h : ∀ k p, k < j → ps[k]? = some p → p.1 ≠ x) : ((ps.take j).map (·.1)).contains x = false := by
  cases hc : ((ps.take j).map (·.1)).contains x with
  | false => rfl
  | true =>
    rw [List.contains_iff_mem] at hc
    obtain ⟨p, hp, e⟩ := List.mem_map.1 hc
    obtain ⟨k, hk⟩ := List.getElem?_of_mem hp
    rw [List.getElem?_take] at hk
    split at hk
    · rename_i hkj
      exact absurd e (h k p hkj hk)
    · cases hk

theorem fault_ret {B : Nat} {w : World} {v : Value} {ps : List Pg} (h : Pgs B w v ps) (hlen : ps.length < 1000) :
    Ret Try.prog 44 [v] w fun r w' => r = .int .i64 (chk ps) ∧ Keep [] w w' := by
  refine ret_of 41 Try.func44 rfl rfl (by simp) ?_
  obtain ⟨va, vcap, hv⟩ := h.form
  repeat (first | refine pl_pure hT rfl rfl rfl ?_ | refine pl_nil ?_ | refine rn_seq ?_ | refine rn_plain ?_ | refine rn_block ?_ | refine rn_inBlock ?_ | refine rn_skip ?_ | refine rn_true rfl ?_ | refine rn_false rfl ?_ | refine rn_exit rfl ?_ | refine pl_not rfl rfl ?_)
  refine rn_ind (fun q σ w' => ∃ j, q = ps.length - j ∧ j ≤ ps.length ∧ σ = [(0, v), (3, .int .i64 (j : Nat))] ∧ Keep [] w w' ∧ chk ps = chkFrom ((ps.take j).map (·.1)) (ps.drop j))
    (ps.length - 0) _ ?_ ⟨0, rfl, Nat.zero_le _, rfl, Keep.refl _ _, by simp [chk]⟩ ?_
  · exact ⟨rfl, rfl, trivial⟩
  rintro q σ w1 ih ⟨j, hq, hj, rfl, hk1, hc⟩
  repeat (first | refine pl_pure hT rfl rfl rfl ?_ | refine pl_nil ?_ | refine rn_seq ?_ | refine rn_plain ?_ | refine rn_block ?_ | refine rn_inBlock ?_ | refine rn_skip ?_ | refine rn_true rfl ?_ | refine rn_false rfl ?_ | refine rn_exit rfl ?_ | refine pl_not rfl rfl ?_)
  refine pl_val (.int .i64 ps.length) rfl rfl (val_pure hT (by rw [hv]; rfl) w1) ?_
  rcases Nat.lt_or_ge j ps.length with hlt | hge
  · refine pl_val (.bool true) rfl rfl (val_int .i64 _ _ _ rfl rfl rfl (by simp [intOp]; omega) w1) ?_
    obtain ⟨p, hp⟩ : ∃ p, ps[j]? = some p := ⟨_, List.getElem?_eq_getElem hlt⟩
    obtain ⟨b, o, cap, hv', hb, hr⟩ := (h.keep hk1 (by simp)).at hp
    rw [drop_at hp, chkFrom] at hc
    repeat (first | refine pl_pure hT rfl rfl rfl ?_ | refine pl_nil ?_ | refine rn_inBlock ?_ | refine rn_skip ?_ | refine rn_true rfl ?_ | refine rn_false rfl ?_ | refine rn_exit rfl ?_)
    refine rn_seq ?_
    refine rn_block ?_
    refine rn_seq ?_
    refine rn_seq ?_
    refine rn_with (fun σ w' => w' = w1 ∧ σ = [(0, v), (3, .int .i64 (j : Nat)), (24, .bool (!hasP p.1))]) ?_ ?_
    · rintro σ w2 ⟨rfl, rfl⟩
      cases hb : hasP p.1 with
      | false =>
        rw [if_pos hb] at hc
        repeat (first | refine pl_pure hT rfl rfl rfl ?_ | refine pl_nil ?_ | refine rn_seq ?_ | refine rn_plain ?_ | refine rn_block ?_ | refine rn_inBlock ?_ | refine rn_skip ?_ | refine rn_true rfl ?_ | refine rn_false rfl ?_ | refine rn_exit rfl ?_ | refine pl_not rfl rfl ?_)
        exact rn_ret Try.func44 (.inl ⟨_, rfl, rfl⟩) ⟨by rw [hc], hk1⟩
      | true =>
        rw [if_neg (by simp [hb])] at hc
        repeat (first | refine pl_pure hT rfl rfl rfl ?_ | refine pl_nil ?_ | refine rn_seq ?_ | refine rn_plain ?_ | refine rn_block ?_ | refine rn_inBlock ?_ | refine rn_skip ?_ | refine rn_true rfl ?_ | refine rn_false rfl ?_ | refine rn_exit rfl ?_ | refine pl_not rfl rfl ?_)
        refine rn_ind (fun q σ w' => ∃ k, q = j - k ∧ k ≤ j ∧ σ = [(0, v), (3, .int .i64 (j : Nat)), (4, .int .i64 (k : Nat))] ∧ Keep [] w w' ∧ ∀ i x, i < k → ps[i]? = some x → x.1 ≠ p.1)
          (j - 0) _ ?_ ⟨0, rfl, Nat.zero_le _, rfl, hk1, fun i x hi => by omega⟩ ?_
        · exact ⟨rfl, rfl, rfl, trivial⟩
        clear hr hk1
        rintro q' σ w2 ih' ⟨k, hq', hk, rfl, hk2, hno⟩
        obtain ⟨b, o, cap, hv', hb', hr⟩ := (h.keep hk2 (by simp)).at hp
        repeat (first | refine pl_pure hT rfl rfl rfl ?_ | refine pl_nil ?_ | refine rn_seq ?_ | refine rn_plain ?_ | refine rn_block ?_ | refine rn_inBlock ?_ | refine rn_skip ?_ | refine rn_true rfl ?_ | refine rn_false rfl ?_ | refine rn_exit rfl ?_ | refine pl_not rfl rfl ?_)
        rcases Nat.lt_or_ge k j with hklt | hkge
        · refine pl_val (.bool true) rfl rfl (val_int .i64 _ _ _ rfl rfl rfl (by simp [intOp]; omega) w2) ?_
          obtain ⟨x, hx⟩ : ∃ x, ps[k]? = some x := ⟨_, List.getElem?_eq_getElem (by omega)⟩
          obtain ⟨b2, o2, cap2, hv2, hb2, hr2⟩ := (h.keep hk2 (by simp)).at hx
          repeat (first | refine pl_pure hT rfl rfl rfl ?_ | refine pl_nil ?_ | refine rn_seq ?_ | refine rn_plain ?_ | refine rn_block ?_ | refine rn_inBlock ?_ | refine rn_skip ?_ | refine rn_true rfl ?_ | refine rn_false rfl ?_ | refine rn_exit rfl ?_ | refine pl_not rfl rfl ?_)
          have hk0 : Keep [] w2 w2.drew := (Keep.refl _ _).drew
          refine rn_draw (fun w' => w'.rangeAt b (o + j * 9) (pcell p) ∧ w'.rangeAt b2 (o2 + k * 9) (pcell x)) [] hMix ?_
          have hS0 : w2.drew.rangeAt b (o + j * 9) (pcell p) ∧ w2.drew.rangeAt b2 (o2 + k * 9) (pcell x) := ⟨hr, hr2⟩
          refine dr_pure 0 hT rfl (by decide +kernel) rfl rfl rfl ?_
          refine dr_pure 1 hT rfl (by decide +kernel) rfl rfl rfl ?_
          refine dr_any 2 _ rfl (by decide +kernel) rfl rfl (fun w' => val_index k hT rfl (by rw [hv2]; rfl) rfl rfl rfl (by omega) w') ?_
          refine dr_pure 3 hT rfl (by decide +kernel) rfl rfl rfl ?_
          refine dr_val 4 (.int .i64 x.1) rfl (by decide +kernel) rfl rfl (fun w' hk => val_load1 hT rfl rfl rfl (hk.2 0 _ rfl)) hS0 ?_
          refine dr_pure 5 hT rfl (by decide +kernel) rfl rfl rfl ?_
          refine dr_pure 6 hT rfl (by decide +kernel) rfl rfl rfl ?_
          refine dr_any 7 _ rfl (by decide +kernel) rfl rfl (fun w' => val_index j hT rfl (by rw [hv']; rfl) rfl rfl rfl hlt w') ?_
          refine dr_pure 8 hT rfl (by decide +kernel) rfl rfl rfl ?_
          refine dr_val 9 (.int .i64 p.1) rfl (by decide +kernel) rfl rfl (fun w' hk => val_load1 hT rfl rfl rfl (hk.1 0 _ rfl)) hS0 ?_
          refine dr_any 10 (.bool (x.1 == p.1)) rfl (by decide +kernel) rfl rfl (fun w' => val_int .i64 _ _ _ rfl rfl rfl rfl w') ?_
          refine dr_done (by decide +kernel) ?_
          by_cases he : x.1 = p.1
          · rw [show (x.1 == p.1) = true by simpa using he]
            rw [contains_at hx hklt he, if_pos rfl] at hc
            repeat (first | refine pl_pure hT rfl rfl rfl ?_ | refine pl_nil ?_ | refine rn_seq ?_ | refine rn_plain ?_ | refine rn_block ?_ | refine rn_inBlock ?_ | refine rn_skip ?_ | refine rn_true rfl ?_ | refine rn_false rfl ?_ | refine rn_exit rfl ?_ | refine pl_not rfl rfl ?_)
            exact rn_ret Try.func44 (.inl ⟨_, rfl, rfl⟩) ⟨by rw [hc], hk2.drew⟩
          · rw [show (x.1 == p.1) = false by simpa using he]
            repeat (first | refine pl_pure hT rfl rfl rfl ?_ | refine pl_nil ?_ | refine rn_seq ?_ | refine rn_plain ?_ | refine rn_block ?_ | refine rn_inBlock ?_ | refine rn_skip ?_ | refine rn_true rfl ?_ | refine rn_false rfl ?_ | refine rn_exit rfl ?_ | refine pl_not rfl rfl ?_)
            refine pl_val (.int .i64 ((k + 1 : Nat) : Int)) rfl rfl (val_int .i64 k 1 _ rfl rfl rfl (by simp only [intOp]; rw [wrap_i64 (by omega) (by omega)]; rfl) _) ?_
            repeat (first | refine pl_pure hT rfl rfl rfl ?_ | refine pl_nil ?_ | refine rn_seq ?_ | refine rn_plain ?_ | refine rn_block ?_ | refine rn_inBlock ?_ | refine rn_skip ?_ | refine rn_true rfl ?_ | refine rn_false rfl ?_ | refine rn_exit rfl ?_ | refine pl_not rfl rfl ?_)
            refine rn_sub ?_ (ih' (j - (k + 1)) _ _ (by omega) ⟨k + 1, rfl, hklt, rfl, hk2.drew, fun i y hi hy => ?_⟩)
            · exact ⟨rfl, rfl, rfl, trivial⟩
            · rcases Nat.lt_or_ge i k with h1 | h1
              · exact hno i y h1 hy
              · have : i = k := by omega
                subst this
                rw [hx] at hy
                cases hy
                exact he
        · refine pl_val (.bool false) rfl rfl (val_int .i64 _ _ _ rfl rfl rfl (by simp [intOp]; omega) w2) ?_
          have hkj : k = j := by omega
          subst hkj
          rw [contains_not (fun i x hi hx => hno i x hi hx), if_neg (by simp)] at hc
          repeat (first | refine pl_pure hT rfl rfl rfl ?_ | refine pl_nil ?_ | refine rn_seq ?_ | refine rn_plain ?_ | refine rn_block ?_ | refine rn_inBlock ?_ | refine rn_skip ?_ | refine rn_true rfl ?_ | refine rn_false rfl ?_ | refine rn_exit rfl ?_ | refine pl_not rfl rfl ?_)
          refine pl_val (.int .i64 ((k + 1 : Nat) : Int)) rfl rfl (val_int .i64 k 1 _ rfl rfl rfl (by simp only [intOp]; rw [wrap_i64 (by omega) (by omega)]; rfl) _) ?_
          repeat (first | refine pl_pure hT rfl rfl rfl ?_ | refine pl_nil ?_ | refine rn_seq ?_ | refine rn_plain ?_ | refine rn_block ?_ | refine rn_inBlock ?_ | refine rn_skip ?_ | refine rn_true rfl ?_ | refine rn_false rfl ?_ | refine rn_exit rfl ?_ | refine pl_not rfl rfl ?_)
          refine rn_sub ?_ (ih (ps.length - (k + 1)) _ _ (by omega) ⟨k + 1, rfl, hlt, rfl, hk2, by rw [take_succ_map hp]; exact hc⟩)
          exact ⟨rfl, rfl, trivial⟩
    intro hjoin
    refine rn_plain ?_
    repeat (first | refine pl_pure hT rfl rfl rfl ?_)
    refine pl_val _ rfl rfl (val_index j hT rfl (by rw [hv']; rfl) rfl rfl rfl hlt w1) ?_
    repeat (first | refine pl_pure hT rfl rfl rfl ?_)
    refine pl_val (.int .i64 p.1) rfl rfl (val_load1 hT rfl rfl rfl (hr 0 _ rfl)) ?_
    by_cases h0 : p.1 < 0
    · refine pl_val (.bool true) rfl rfl (val_int .i64 _ 0 _ rfl rfl rfl (by simp [intOp, h0]) w1) ?_
      repeat (first | refine pl_pure hT rfl rfl rfl ?_ | refine pl_not rfl rfl ?_ | refine pl_nil ?_)
      refine rn_sub ?_ (hjoin _ w1 ⟨rfl, rfl⟩)
      rw [show (!hasP p.1) = true by simp [hasP]; omega]
      exact ⟨rfl, rfl, rfl, trivial⟩
    · refine pl_val (.bool false) rfl rfl (val_int .i64 _ 0 _ rfl rfl rfl (by simp [intOp, h0]) w1) ?_
      repeat (first | refine pl_pure hT rfl rfl rfl ?_)
      refine pl_val _ rfl rfl (val_index j hT rfl (by rw [hv']; rfl) rfl rfl rfl hlt w1) ?_
      repeat (first | refine pl_pure hT rfl rfl rfl ?_)
      refine pl_val (.int .i64 p.1) rfl rfl (val_load1 hT rfl rfl rfl (hr 0 _ rfl)) ?_
      refine pl_val (.bool (!hasP p.1)) rfl rfl (val_int .i64 _ 14 _ rfl rfl rfl (by simp only [intOp, hasP]; congr 2; rw [decide_eq_true (by omega : 0 ≤ p.1), Bool.true_and]; by_cases h14 : p.1 < 14 <;> simp [h14]; omega) w1) ?_
      repeat (first | refine pl_pure hT rfl rfl rfl ?_ | refine pl_nil ?_)
      refine rn_sub ?_ (hjoin _ w1 ⟨rfl, rfl⟩)
      exact ⟨rfl, rfl, rfl, trivial⟩
  · refine pl_val (.bool false) rfl rfl (val_int .i64 _ _ _ rfl rfl rfl (by simp [intOp]; omega) w1) ?_
    repeat (first | refine pl_pure hT rfl rfl rfl ?_ | refine pl_nil ?_ | refine rn_seq ?_ | refine rn_plain ?_ | refine rn_block ?_ | refine rn_inBlock ?_ | refine rn_skip ?_ | refine rn_true rfl ?_ | refine rn_false rfl ?_ | refine rn_exit rfl ?_ | refine pl_not rfl rfl ?_)
    refine rn_ret Try.func44 (.inl ⟨_, rfl, rfl⟩) ⟨?_, hk1⟩
    rw [hc, List.drop_eq_nil_of_le hge]
    rfl
end E
end Go.Proofs.Ytcnjmjdnlhiflab
