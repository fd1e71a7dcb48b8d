/- MemoryApart walked: it returns true. -/
import Derived.Test.YtcnjmjdnlhiflabMoD
namespace Go.Proofs.Ytcnjmjdnlhiflab
set_option maxRecDepth 20000
namespace E
open Go.Proofs

theorem loadW_at {W : List Int} {k : Nat} (hk : k < 112) : loadW W (k : Nat) = W.getD k 0 := by
  unfold loadW
  rw [if_pos (by simp [hasM]; omega)]
  simp
theorem putW_at {W : List Int} (h : W.length = 112) {k : Nat} (hk : k < 112) (i x : Int) : (putW W i x).getD k 0 = if (k : Int) = i then x else W.getD k 0 := by
  unfold putW
  cases hb : hasM i with
  | false =>
    rw [if_neg (by simp), if_neg ?_]
    intro e
    rw [← e] at hb
    simp [hasM] at hb
    omega
  | true =>
    have hi : 0 ≤ i ∧ i < 112 := by simpa [hasM] using hb
    rw [if_pos rfl, List.getD_eq_getElem?_getD, List.getElem?_set]
    by_cases e : i.toNat = k
    · rw [if_pos e, if_pos (by omega), if_pos (by omega)]
      rfl
    · rw [if_neg e, if_neg (by omega), List.getD_eq_getElem?_getD]

theorem Wds.at {B : Nat} {w : World} {v : Value} {W : List Int} (h : Wds B w v W) : ∃ g cap, v = .slice (some ⟨g, 0, none⟩) 112 cap ∧ g < w.heap.size ∧ ∀ k, k < 112 → w.cell? ⟨g, 0 + k * 1, none⟩ = some (.int .i64 (W.getD k 0)) := by
  obtain ⟨g, cap, rfl, hl, _, hlt, hr⟩ := h
  refine ⟨g, cap, rfl, hlt, fun k hk => ?_⟩
  rw [Nat.mul_one]
  refine hr k _ ?_
  rw [List.getD_eq_getElem?_getD, List.getElem?_eq_getElem (show k < W.length by omega)]
  simp only [ints, List.getElem?_map, List.getElem?_eq_getElem (show k < W.length by omega)]
  rfl

theorem apart_ret {w : World} {lv : Value} {st : List MStep} (h0 : ArgM w.heap.size w lv st) (at_ x : Int) :
    Ret Try.prog 6 [lv, .int .i64 at_, .int .i64 x] w fun v w' => v = .bool true ∧ Keep [] w w' := by
  refine ret_of 109 Try.func6 rfl rfl (by simp) ?_
  obtain ⟨la, lcap, hlv⟩ := h0.form
  repeat (first | refine pl_pure hT rfl rfl rfl ?_ | refine pl_nil ?_ | refine rn_seq ?_ | refine rn_plain ?_ | refine rn_block ?_ | refine rn_inBlock ?_ | refine rn_skip ?_ | refine rn_true rfl ?_ | refine rn_false rfl ?_ | refine rn_exit rfl ?_ | refine pl_not rfl rfl ?_)
  refine pl_op rfl rfl (opTo_call rfl rfl rfl rfl (by decide +kernel) ((memoryBegun_ret w).mono ?_))
  rintro v w1 ⟨rfl, hk1⟩
  repeat (first | refine pl_pure hT rfl rfl rfl ?_ | refine pl_nil ?_ | refine rn_seq ?_ | refine rn_plain ?_ | refine rn_block ?_ | refine rn_inBlock ?_ | refine rn_skip ?_ | refine rn_true rfl ?_ | refine rn_false rfl ?_ | refine rn_exit rfl ?_ | refine pl_not rfl rfl ?_)
  refine pl_val (.int .i64 st.length) rfl rfl (val_pure hT (by rw [hlv]; rfl) w1) ?_
  by_cases hbig : st.length > 150
  · refine pl_val (.bool true) rfl rfl (val_int .i64 _ 150 _ rfl rfl rfl (by simp [intOp]; omega) w1) ?_
    repeat (first | refine pl_pure hT rfl rfl rfl ?_ | refine pl_nil ?_ | refine rn_seq ?_ | refine rn_plain ?_ | refine rn_block ?_ | refine rn_inBlock ?_ | refine rn_skip ?_ | refine rn_true rfl ?_ | refine rn_false rfl ?_ | refine rn_exit rfl ?_ | refine pl_not rfl rfl ?_)
    exact rn_ret Try.func6 (.inl ⟨_, rfl, rfl⟩) ⟨rfl, hk1⟩
  refine pl_val (.bool false) rfl rfl (val_int .i64 _ 150 _ rfl rfl rfl (by simp [intOp]; omega) w1) ?_
  repeat (first | refine pl_pure hT rfl rfl rfl ?_ | refine pl_nil ?_ | refine rn_seq ?_ | refine rn_plain ?_ | refine rn_block ?_ | refine rn_inBlock ?_ | refine rn_skip ?_ | refine rn_true rfl ?_ | refine rn_false rfl ?_ | refine rn_exit rfl ?_ | refine pl_not rfl rfl ?_)
  refine pl_op rfl rfl (opTo_call rfl rfl rfl rfl (by decide +kernel) ((new_ret w1).mono ?_))
  rintro v w2 ⟨rfl, h2, hk2⟩
  rw [show List.replicate 272 (0 : Int) = S0 from rfl] at h2
  have hkw2 := hk1.tr0 hk2
  have hB : w.heap.size ≤ w1.heap.size := hk1.size
  generalize w1.heap.size = d at *
  refine pl_op rfl rfl (opTo_call rfl rfl rfl rfl (by decide +kernel) ((open_ret d w2).mono ?_))
  rintro v w3 ⟨rfl, hs3, hk3⟩
  have h3 := h2.keep hk3 (by simp)
  have hkw3 := hkw2.tr0 hk3
  generalize w2.heap.size = s at *
  refine pl_op rfl rfl (opTo_call rfl rfl rfl rfl (by decide +kernel) ((mnew_ret hs3 h3).mono ?_))
  rintro v w4 ⟨m, rfl, hle, hm4, hk4⟩
  have hdm : d ≤ m := by have := (h3.lt d (by simp [fpD])).2; omega
  have h4 := fresh_st hm4 hs3 h3 good0 hk4 hdm
  have hkw4 := hkw3.tr0 hk4
  clear hm4 hs3 h3 h2 hk1 hk2 hk3 hkw2 hkw3 hk4 hle
  repeat (first | refine pl_pure hT rfl rfl rfl ?_ | refine pl_nil ?_ | refine rn_seq ?_ | refine rn_plain ?_ | refine rn_block ?_ | refine rn_inBlock ?_ | refine rn_skip ?_ | refine rn_true rfl ?_ | refine rn_false rfl ?_ | refine rn_exit rfl ?_ | refine pl_not rfl rfl ?_)
  refine rn_ind (fun q σ w' => ∃ j S W D wv, q = st.length - j ∧ j ≤ st.length ∧ σ = [(0, lv), (1, .int .i64 at_), (2, .int .i64 x), (7, .pointer (some ⟨m, 0, none⟩)), (8, .int .i64 (j : Nat))] ∧
      Keep [] w w' ∧ St d w' d s m S W D wv ∧ genS S ≤ j)
    (st.length - 0) _ ?_ ⟨0, _, _, _, _, rfl, Nat.zero_le _, rfl, hkw4, h4, by rw [genS0]; decide⟩ ?_
  · exact ⟨rfl, rfl, rfl, rfl, rfl, trivial⟩
  clear h4 hkw4
  rintro q σ w5 ih ⟨j, S, W, D, wv, hq, hj, rfl, hk5, h5, hg5⟩
  repeat (first | refine pl_pure hT rfl rfl rfl ?_ | refine pl_nil ?_ | refine rn_seq ?_ | refine rn_plain ?_ | refine rn_block ?_ | refine rn_inBlock ?_ | refine rn_skip ?_ | refine rn_true rfl ?_ | refine rn_false rfl ?_ | refine rn_exit rfl ?_ | refine pl_not rfl rfl ?_)
  refine pl_val (.int .i64 st.length) rfl rfl (val_pure hT (by rw [hlv]; rfl) w5) ?_
  rcases Nat.lt_or_ge j st.length with hlt | hge
  · refine pl_val (.bool true) rfl rfl (val_int .i64 _ _ _ rfl rfl rfl (by simp [intOp]; omega) w5) ?_
    obtain ⟨u, hu⟩ : ∃ u, st[j]? = some u := ⟨_, List.getElem?_eq_getElem hlt⟩
    obtain ⟨b, o, cap, hv', hb, hr⟩ := (h0.keep hk5 (by simp)).at hu
    have hbl : b < w5.heap.size := Nat.lt_of_lt_of_le hb hk5.size
    repeat (first | refine pl_pure hT rfl rfl rfl ?_ | refine pl_nil ?_ | refine rn_seq ?_ | refine rn_plain ?_ | refine rn_block ?_ | refine rn_inBlock ?_ | refine rn_skip ?_ | refine rn_true rfl ?_ | refine rn_false rfl ?_ | refine rn_exit rfl ?_ | refine pl_not rfl rfl ?_)
    refine pl_val _ rfl rfl (val_index j hT rfl (by rw [hv']; rfl) rfl rfl rfl hlt w5) ?_
    repeat (first | refine pl_pure hT rfl rfl rfl ?_ | refine pl_nil ?_ | refine rn_seq ?_ | refine rn_plain ?_ | refine rn_block ?_ | refine rn_inBlock ?_ | refine rn_skip ?_ | refine rn_true rfl ?_ | refine rn_false rfl ?_ | refine rn_exit rfl ?_ | refine pl_not rfl rfl ?_)
    refine pl_val (.int .i64 u.d) rfl rfl (val_load1 hT rfl rfl rfl (hr 0 _ rfl)) ?_
    by_cases hd : u.d = 0
    · refine pl_val (.bool true) rfl rfl (val_int .i64 _ 0 _ rfl rfl rfl (by simp [intOp, hd]) w5) ?_
      repeat (first | refine pl_pure hT rfl rfl rfl ?_ | refine pl_nil ?_ | refine rn_seq ?_ | refine rn_plain ?_ | refine rn_block ?_ | refine rn_inBlock ?_ | refine rn_skip ?_ | refine rn_true rfl ?_ | refine rn_false rfl ?_ | refine rn_exit rfl ?_ | refine pl_not rfl rfl ?_)
      have hS0 : w5.drew.rangeAt b (o + j * 5) (scell u) := hr
      refine rn_draw (fun w' => w'.rangeAt b (o + j * 5) (scell u)) [] hMix ?_
      refine dr_pure 0 hT rfl (by decide +kernel) rfl rfl rfl ?_
      refine dr_pure 1 hT rfl (by decide +kernel) rfl rfl rfl ?_
      refine dr_pure 2 hT rfl (by decide +kernel) rfl rfl rfl ?_
      refine dr_any 3 _ rfl (by decide +kernel) rfl rfl (fun w' => val_index j hT rfl (by rw [hv']; rfl) rfl rfl rfl hlt w') ?_
      refine dr_pure 4 hT rfl (by decide +kernel) rfl rfl rfl ?_
      refine dr_val 5 (.int .i64 u.a) rfl (by decide +kernel) rfl rfl (fun w' hk => val_load1 hT rfl rfl rfl (hk 1 _ rfl)) hS0 ?_
      refine dr_pure 6 hT rfl (by decide +kernel) rfl rfl rfl ?_
      refine dr_pure 7 hT rfl (by decide +kernel) rfl rfl rfl ?_
      refine dr_any 8 _ rfl (by decide +kernel) rfl rfl (fun w' => val_index j hT rfl (by rw [hv']; rfl) rfl rfl rfl hlt w') ?_
      refine dr_pure 9 hT rfl (by decide +kernel) rfl rfl rfl ?_
      refine dr_val 10 (.int .i64 u.x) rfl (by decide +kernel) rfl rfl (fun w' hk => val_load1 hT rfl rfl rfl (hk 3 _ rfl)) hS0 ?_
      refine dr_op 11 rfl (by decide +kernel) rfl rfl (opTo_call rfl rfl rfl rfl (by decide +kernel) ((puts_ret (h5.keep0 ((Keep.refl [] w5).drew)) u.a u.x).mono ?_))
      rintro v w6 ⟨rfl, h6, hk6⟩
      have hmd := h5.hm
      have hkw6 : Keep [] w w6 := (hk5.drew).trans hk6 fun k hk => .inr (by simp at hk; omega)
      refine ⟨fun _ => hk6.range hS0 hbl (by simp; omega), ?_⟩
      refine dr_done (by decide +kernel) ?_
      repeat (first | refine pl_pure hT rfl rfl rfl ?_ | refine pl_nil ?_ | refine rn_seq ?_ | refine rn_plain ?_ | refine rn_block ?_ | refine rn_inBlock ?_ | refine rn_skip ?_ | refine rn_true rfl ?_ | refine rn_false rfl ?_ | refine rn_exit rfl ?_ | refine pl_not rfl rfl ?_)
      refine pl_val (.int .i64 ((j + 1 : Nat) : Int)) rfl rfl (val_int .i64 j 1 _ rfl rfl rfl (by simp only [intOp]; rw [wrap_i64 (by omega) (by omega)]; rfl) w6) ?_
      repeat (first | refine pl_pure hT rfl rfl rfl ?_ | refine pl_nil ?_ | refine rn_seq ?_ | refine rn_plain ?_ | refine rn_block ?_ | refine rn_inBlock ?_ | refine rn_skip ?_ | refine rn_true rfl ?_ | refine rn_false rfl ?_ | refine rn_exit rfl ?_ | refine pl_not rfl rfl ?_)
      refine rn_sub ?_ (ih (st.length - (j + 1)) _ w6 (by omega) ⟨j + 1, _, _, _, _, rfl, hlt, rfl, hkw6, h6, by omega⟩)
      exact ⟨rfl, rfl, rfl, rfl, rfl, trivial⟩
    · refine pl_val (.bool false) rfl rfl (val_int .i64 _ 0 _ rfl rfl rfl (by simp [intOp, hd]) w5) ?_
      repeat (first | refine pl_pure hT rfl rfl rfl ?_ | refine pl_nil ?_ | refine rn_seq ?_ | refine rn_plain ?_ | refine rn_block ?_ | refine rn_inBlock ?_ | refine rn_skip ?_ | refine rn_true rfl ?_ | refine rn_false rfl ?_ | refine rn_exit rfl ?_ | refine pl_not rfl rfl ?_)
      refine pl_op rfl rfl (opTo_call rfl rfl rfl rfl (by decide +kernel) ((syncs_ret h5 (by omega) (-1) (doneB_neg _)).mono ?_))
      rintro v w6 ⟨rfl, S6, wv6, h6, hg6, _, hk6⟩
      have hkw6 : Keep [] w w6 := hk5.trans hk6 fun k hk => .inr (Nat.le_trans hB (h5.fp k hk))
      repeat (first | refine pl_pure hT rfl rfl rfl ?_ | refine pl_nil ?_ | refine rn_seq ?_ | refine rn_plain ?_ | refine rn_block ?_ | refine rn_inBlock ?_ | refine rn_skip ?_ | refine rn_true rfl ?_ | refine rn_false rfl ?_ | refine rn_exit rfl ?_ | refine pl_not rfl rfl ?_)
      refine pl_val (.int .i64 ((j + 1 : Nat) : Int)) rfl rfl (val_int .i64 j 1 _ rfl rfl rfl (by simp only [intOp]; rw [wrap_i64 (by omega) (by omega)]; rfl) w6) ?_
      repeat (first | refine pl_pure hT rfl rfl rfl ?_ | refine pl_nil ?_ | refine rn_seq ?_ | refine rn_plain ?_ | refine rn_block ?_ | refine rn_inBlock ?_ | refine rn_skip ?_ | refine rn_true rfl ?_ | refine rn_false rfl ?_ | refine rn_exit rfl ?_ | refine pl_not rfl rfl ?_)
      refine rn_sub ?_ (ih (st.length - (j + 1)) _ w6 (by omega) ⟨j + 1, _, _, _, _, rfl, hlt, rfl, hkw6, h6, by omega⟩)
      exact ⟨rfl, rfl, rfl, rfl, rfl, trivial⟩
  refine pl_val (.bool false) rfl rfl (val_int .i64 _ _ _ rfl rfl rfl (by simp [intOp]; omega) w5) ?_
  clear ih
  repeat (first | refine pl_pure hT rfl rfl rfl ?_ | refine pl_nil ?_ | refine rn_seq ?_ | refine rn_plain ?_ | refine rn_block ?_ | refine rn_inBlock ?_ | refine rn_skip ?_ | refine rn_true rfl ?_ | refine rn_false rfl ?_ | refine rn_exit rfl ?_ | refine pl_not rfl rfl ?_)
  refine pl_op rfl rfl (opTo_call rfl rfl rfl rfl (by decide +kernel) ((all_ret h5.mem).mono ?_))
  rintro v w6 ⟨ha6, hk6⟩
  have h6 := h5.keep0 hk6
  have hkw6 := hk5.tr0 hk6
  have hmlt : m < w5.heap.size := h5.mem.blk.lt
  repeat (first | refine pl_pure hT rfl rfl rfl ?_ | refine pl_nil ?_ | refine rn_seq ?_ | refine rn_plain ?_ | refine rn_block ?_ | refine rn_inBlock ?_ | refine rn_skip ?_ | refine rn_true rfl ?_ | refine rn_false rfl ?_ | refine rn_exit rfl ?_ | refine pl_not rfl rfl ?_)
  refine pl_op rfl rfl (opTo_call rfl rfl rfl rfl (by decide +kernel) ((puts_ret h6 at_ x).mono ?_))
  rintro v7 w7 ⟨rfl, h7, hk7⟩
  have hkw7 : Keep [] w w7 := hkw6.trans hk7 fun k hk => .inr (by have := h5.hm; simp at hk; omega)
  have ha7 := ha6.keep hk7 (by
    obtain ⟨g, cap, rfl, _, hBg, _⟩ := ha6
    intro k hk e
    simp at hk
    simp [Value.ownBlock] at e
    omega)
  repeat (first | refine pl_pure hT rfl rfl rfl ?_ | refine pl_nil ?_ | refine rn_seq ?_ | refine rn_plain ?_ | refine rn_block ?_ | refine rn_inBlock ?_ | refine rn_skip ?_ | refine rn_true rfl ?_ | refine rn_false rfl ?_ | refine rn_exit rfl ?_ | refine pl_not rfl rfl ?_)
  refine pl_op rfl rfl (opTo_call rfl rfl rfl rfl (by decide +kernel) ((all_ret h7.mem).mono ?_))
  rintro v8 w8 ⟨hb8, hk8⟩
  have ha8 := ha7.keep0 hk8
  have h8 := h7.keep0 hk8
  have hkw8 := hkw7.tr0 hk8
  obtain ⟨ga, ca, rfl, hla, hca⟩ := ha8.at
  obtain ⟨gb, cb, rfl, hlb, hcb⟩ := hb8.at
  have hWl := h5.mem.wl
  clear ha6 ha7 hb8 ha8 h7 h6 hk7 hk6 hkw7 hkw6 h5 hk8 hk5
  repeat (first | refine pl_pure hT rfl rfl rfl ?_ | refine pl_nil ?_ | refine rn_inBlock ?_ | refine rn_skip ?_ | refine rn_true rfl ?_ | refine rn_false rfl ?_ | refine rn_exit rfl ?_)
  refine rn_seq ?_
  refine rn_seq ?_
  refine rn_with (fun σ w' => w' = w8 ∧ σ = [(1, .int .i64 at_), (2, .int .i64 x), (7, .pointer (some ⟨m, 0, none⟩)), (9, .slice (some ⟨ga, 0, none⟩) 112 ca), (11, .slice (some ⟨gb, 0, none⟩) 112 cb), (73, .bool false)]) ?_ ?_
  · rintro σ w9 ⟨rfl, rfl⟩
    repeat (first | refine pl_pure hT rfl rfl rfl ?_ | refine pl_nil ?_ | refine rn_seq ?_ | refine rn_plain ?_ | refine rn_block ?_ | refine rn_inBlock ?_ | refine rn_skip ?_ | refine rn_true rfl ?_ | refine rn_false rfl ?_ | refine rn_exit rfl ?_ | refine pl_not rfl rfl ?_)
    refine rn_ind (fun q σ w' => ∃ k, q = 112 - k ∧ k ≤ 112 ∧ σ = [(1, .int .i64 at_), (2, .int .i64 x), (7, .pointer (some ⟨m, 0, none⟩)), (9, .slice (some ⟨ga, 0, none⟩) 112 ca), (11, .slice (some ⟨gb, 0, none⟩) 112 cb), (12, .int .i64 (k : Nat))] ∧ w' = w9)
      (112 - 0) _ ?_ ⟨0, rfl, by decide, rfl, rfl⟩ ?_
    · exact ⟨rfl, rfl, rfl, rfl, rfl, rfl, trivial⟩
    rintro q σ w10 ih ⟨k, hq, hk, rfl, rfl⟩
    repeat (first | refine pl_pure hT rfl rfl rfl ?_ | refine pl_nil ?_ | refine rn_seq ?_ | refine rn_plain ?_ | refine rn_block ?_ | refine rn_inBlock ?_ | refine rn_skip ?_ | refine rn_true rfl ?_ | refine rn_false rfl ?_ | refine rn_exit rfl ?_ | refine pl_not rfl rfl ?_)
    rcases Nat.lt_or_ge k 112 with hlt | hge
    · refine pl_val (.bool true) rfl rfl (val_int .i64 _ _ _ rfl rfl rfl (by simp [intOp]; omega) w10) ?_
      repeat (first | refine pl_pure hT rfl rfl rfl ?_ | refine pl_nil ?_ | refine rn_seq ?_ | refine rn_plain ?_ | refine rn_block ?_ | refine rn_inBlock ?_ | refine rn_skip ?_ | refine rn_true rfl ?_ | refine rn_false rfl ?_ | refine rn_exit rfl ?_ | refine pl_not rfl rfl ?_)
      refine pl_val _ rfl rfl (val_index k hT rfl rfl rfl rfl rfl hlt w10) ?_
      refine pl_val _ rfl rfl (val_load1 hT rfl rfl rfl (hca k hlt)) ?_
      repeat (first | refine pl_pure hT rfl rfl rfl ?_ | refine pl_nil ?_ | refine rn_inBlock ?_ | refine rn_skip ?_ | refine rn_true rfl ?_ | refine rn_false rfl ?_ | refine rn_exit rfl ?_)
      refine rn_seq ?_
      refine rn_seq ?_
      refine rn_with (fun σ w' => w' = w10 ∧ σ = [(1, .int .i64 at_), (2, .int .i64 x), (7, .pointer (some ⟨m, 0, none⟩)), (9, .slice (some ⟨ga, 0, none⟩) 112 ca), (11, .slice (some ⟨gb, 0, none⟩) 112 cb), (12, .int .i64 (k : Nat)), (13, .int .i64 (W.getD k 0)), (86, .bool (decide ((k : Int) = at_)))]) ?_ ?_
      · rintro σ w11 ⟨rfl, rfl⟩
        have hwant := putW_at hWl hlt at_ x
        have hload := loadW_at (W := putW W at_ x) hlt
        have hcb' := hcb k hlt
        by_cases e : (k : Int) = at_
        · rw [decide_eq_true e]
          rw [if_pos e] at hwant
          rw [hwant] at hload hcb'
          repeat (first | refine pl_pure hT rfl rfl rfl ?_ | refine pl_nil ?_ | refine rn_seq ?_ | refine rn_plain ?_ | refine rn_block ?_ | refine rn_inBlock ?_ | refine rn_skip ?_ | refine rn_true rfl ?_ | refine rn_false rfl ?_ | refine rn_exit rfl ?_ | refine pl_not rfl rfl ?_)
          refine pl_val _ rfl rfl (val_index k hT rfl rfl rfl rfl rfl hlt w11) ?_
          refine pl_val _ rfl rfl (val_load1 hT rfl rfl rfl hcb') ?_
          repeat (first | refine pl_pure hT rfl rfl rfl ?_ | refine pl_nil ?_ | refine rn_seq ?_ | refine rn_plain ?_ | refine rn_block ?_ | refine rn_inBlock ?_ | refine rn_skip ?_ | refine rn_true rfl ?_ | refine rn_false rfl ?_ | refine rn_exit rfl ?_ | refine pl_not rfl rfl ?_)
          refine pl_val (.bool false) rfl rfl (val_int .i64 _ _ _ rfl rfl rfl (by simp [intOp]) w11) ?_
          repeat (first | refine pl_pure hT rfl rfl rfl ?_ | refine pl_nil ?_ | refine rn_seq ?_ | refine rn_plain ?_ | refine rn_block ?_ | refine rn_inBlock ?_ | refine rn_skip ?_ | refine rn_true rfl ?_ | refine rn_false rfl ?_ | refine rn_exit rfl ?_ | refine pl_not rfl rfl ?_)
          refine pl_op rfl rfl (opTo_call rfl rfl rfl rfl (by decide +kernel) ((load_ret h8.mem (k : Nat)).mono ?_))
          rintro v w12 ⟨rfl, rfl⟩
          rw [hload]
          repeat (first | refine pl_pure hT rfl rfl rfl ?_ | refine pl_nil ?_ | refine rn_seq ?_ | refine rn_plain ?_ | refine rn_block ?_ | refine rn_inBlock ?_ | refine rn_skip ?_ | refine rn_true rfl ?_ | refine rn_false rfl ?_ | refine rn_exit rfl ?_ | refine pl_not rfl rfl ?_)
          refine pl_val (.bool false) rfl rfl (val_int .i64 _ _ _ rfl rfl rfl (by simp [intOp]) w12) ?_
          repeat (first | refine pl_pure hT rfl rfl rfl ?_ | refine pl_nil ?_ | refine rn_seq ?_ | refine rn_plain ?_ | refine rn_block ?_ | refine rn_inBlock ?_ | refine rn_skip ?_ | refine rn_true rfl ?_ | refine rn_false rfl ?_ | refine rn_exit rfl ?_ | refine pl_not rfl rfl ?_)
          refine pl_val (.int .i64 ((k + 1 : Nat) : Int)) rfl rfl (val_int .i64 k 1 _ rfl rfl rfl (by simp only [intOp]; rw [wrap_i64 (by omega) (by omega)]; rfl) w12) ?_
          repeat (first | refine pl_pure hT rfl rfl rfl ?_ | refine pl_nil ?_ | refine rn_seq ?_ | refine rn_plain ?_ | refine rn_block ?_ | refine rn_inBlock ?_ | refine rn_skip ?_ | refine rn_true rfl ?_ | refine rn_false rfl ?_ | refine rn_exit rfl ?_ | refine pl_not rfl rfl ?_)
          refine rn_sub ?_ (ih (112 - (k + 1)) _ w12 (by omega) ⟨k + 1, rfl, hlt, rfl, rfl⟩)
          exact ⟨rfl, rfl, rfl, rfl, rfl, rfl, trivial⟩
        · rw [decide_eq_false e]
          rw [if_neg e] at hwant
          rw [hwant] at hload hcb'
          repeat (first | refine pl_pure hT rfl rfl rfl ?_ | refine pl_nil ?_ | refine rn_seq ?_ | refine rn_plain ?_ | refine rn_block ?_ | refine rn_inBlock ?_ | refine rn_skip ?_ | refine rn_true rfl ?_ | refine rn_false rfl ?_ | refine rn_exit rfl ?_ | refine pl_not rfl rfl ?_)
          refine pl_val _ rfl rfl (val_index k hT rfl rfl rfl rfl rfl hlt w11) ?_
          refine pl_val _ rfl rfl (val_load1 hT rfl rfl rfl hcb') ?_
          repeat (first | refine pl_pure hT rfl rfl rfl ?_ | refine pl_nil ?_ | refine rn_seq ?_ | refine rn_plain ?_ | refine rn_block ?_ | refine rn_inBlock ?_ | refine rn_skip ?_ | refine rn_true rfl ?_ | refine rn_false rfl ?_ | refine rn_exit rfl ?_ | refine pl_not rfl rfl ?_)
          refine pl_val (.bool false) rfl rfl (val_int .i64 _ _ _ rfl rfl rfl (by simp [intOp]) w11) ?_
          repeat (first | refine pl_pure hT rfl rfl rfl ?_ | refine pl_nil ?_ | refine rn_seq ?_ | refine rn_plain ?_ | refine rn_block ?_ | refine rn_inBlock ?_ | refine rn_skip ?_ | refine rn_true rfl ?_ | refine rn_false rfl ?_ | refine rn_exit rfl ?_ | refine pl_not rfl rfl ?_)
          refine pl_op rfl rfl (opTo_call rfl rfl rfl rfl (by decide +kernel) ((load_ret h8.mem (k : Nat)).mono ?_))
          rintro v w12 ⟨rfl, rfl⟩
          rw [hload]
          repeat (first | refine pl_pure hT rfl rfl rfl ?_ | refine pl_nil ?_ | refine rn_seq ?_ | refine rn_plain ?_ | refine rn_block ?_ | refine rn_inBlock ?_ | refine rn_skip ?_ | refine rn_true rfl ?_ | refine rn_false rfl ?_ | refine rn_exit rfl ?_ | refine pl_not rfl rfl ?_)
          refine pl_val (.bool false) rfl rfl (val_int .i64 _ _ _ rfl rfl rfl (by simp [intOp]) w12) ?_
          repeat (first | refine pl_pure hT rfl rfl rfl ?_ | refine pl_nil ?_ | refine rn_seq ?_ | refine rn_plain ?_ | refine rn_block ?_ | refine rn_inBlock ?_ | refine rn_skip ?_ | refine rn_true rfl ?_ | refine rn_false rfl ?_ | refine rn_exit rfl ?_ | refine pl_not rfl rfl ?_)
          refine pl_val (.int .i64 ((k + 1 : Nat) : Int)) rfl rfl (val_int .i64 k 1 _ rfl rfl rfl (by simp only [intOp]; rw [wrap_i64 (by omega) (by omega)]; rfl) w12) ?_
          repeat (first | refine pl_pure hT rfl rfl rfl ?_ | refine pl_nil ?_ | refine rn_seq ?_ | refine rn_plain ?_ | refine rn_block ?_ | refine rn_inBlock ?_ | refine rn_skip ?_ | refine rn_true rfl ?_ | refine rn_false rfl ?_ | refine rn_exit rfl ?_ | refine pl_not rfl rfl ?_)
          refine rn_sub ?_ (ih (112 - (k + 1)) _ w12 (by omega) ⟨k + 1, rfl, hlt, rfl, rfl⟩)
          exact ⟨rfl, rfl, rfl, rfl, rfl, rfl, trivial⟩
      intro hjoin
      refine rn_plain ?_
      repeat (first | refine pl_pure hT rfl rfl rfl ?_)
      refine pl_val (.bool (decide ((k : Int) = at_))) rfl rfl (val_int .i64 _ _ _ rfl rfl rfl (by simp only [intOp]; rfl) w10) ?_
      refine pl_nil ?_
      refine rn_sub ?_ (hjoin _ w10 ⟨rfl, rfl⟩)
      exact ⟨rfl, rfl, rfl, rfl, rfl, rfl, rfl, rfl, trivial⟩
    refine pl_val (.bool false) rfl rfl (val_int .i64 _ _ _ rfl rfl rfl (by simp [intOp]; omega) w10) ?_
    clear ih
    repeat (first | refine pl_pure hT rfl rfl rfl ?_ | refine pl_nil ?_ | refine rn_seq ?_ | refine rn_plain ?_ | refine rn_block ?_ | refine rn_inBlock ?_ | refine rn_skip ?_ | refine rn_true rfl ?_ | refine rn_false rfl ?_ | refine rn_exit rfl ?_ | refine pl_not rfl rfl ?_)
    refine pl_op rfl rfl (opTo_call rfl rfl rfl rfl (by decide +kernel) ((load_ret h8.mem (-1)).mono ?_))
    rintro v w11 ⟨rfl, rfl⟩
    refine pl_val (.bool true) rfl rfl (val_int .i64 0 0 _ rfl rfl rfl rfl w11) ?_
    repeat (first | refine pl_pure hT rfl rfl rfl ?_ | refine pl_nil ?_ | refine rn_seq ?_ | refine rn_plain ?_ | refine rn_block ?_ | refine rn_inBlock ?_ | refine rn_skip ?_ | refine rn_true rfl ?_ | refine rn_false rfl ?_ | refine rn_exit rfl ?_ | refine pl_not rfl rfl ?_)
    refine pl_op rfl rfl (opTo_call rfl rfl rfl rfl (by decide +kernel) ((load_ret h8.mem 112).mono ?_))
    rintro v w11 ⟨rfl, rfl⟩
    refine pl_val (.bool true) rfl rfl (val_int .i64 0 0 _ rfl rfl rfl rfl w11) ?_
    repeat (first | refine pl_pure hT rfl rfl rfl ?_ | refine pl_nil ?_ | refine rn_seq ?_ | refine rn_plain ?_ | refine rn_block ?_ | refine rn_inBlock ?_ | refine rn_skip ?_ | refine rn_true rfl ?_ | refine rn_false rfl ?_ | refine rn_exit rfl ?_ | refine pl_not rfl rfl ?_)
    exact rn_ret Try.func6 (.inl ⟨_, rfl, rfl⟩) ⟨rfl, hkw8⟩
  intro hjoin
  refine rn_plain ?_
  repeat (first | refine pl_pure hT rfl rfl rfl ?_)
  refine pl_val (.bool false) rfl rfl (val_int .i64 112 112 _ rfl rfl rfl rfl w8) ?_
  repeat (first | refine pl_pure hT rfl rfl rfl ?_)
  refine pl_val (.bool false) rfl rfl (val_int .i64 112 112 _ rfl rfl rfl rfl w8) ?_
  repeat (first | refine pl_pure hT rfl rfl rfl ?_)
  by_cases h0 : 0 ≤ at_
  · refine pl_val (.bool true) rfl rfl (val_int .i64 at_ 0 _ rfl rfl rfl (by simp [intOp, h0]) w8) ?_
    repeat (first | refine pl_pure hT rfl rfl rfl ?_)
    refine pl_val (.bool (decide (at_ < 112))) rfl rfl (val_int .i64 at_ 112 _ rfl rfl rfl (by simp [intOp]) w8) ?_
    repeat (first | refine pl_pure hT rfl rfl rfl ?_)
    refine pl_val (.bool false) rfl rfl (val_neBool _ _ _ (by decide +kernel) rfl rfl rfl (by simp [hasM, h0]) w8) ?_
    repeat (first | refine pl_pure hT rfl rfl rfl ?_ | refine pl_nil ?_)
    refine rn_sub ?_ (hjoin _ w8 ⟨rfl, rfl⟩)
    exact ⟨rfl, rfl, rfl, rfl, rfl, rfl, trivial⟩
  · refine pl_val (.bool false) rfl rfl (val_int .i64 at_ 0 _ rfl rfl rfl (by simp [intOp, h0]) w8) ?_
    repeat (first | refine pl_pure hT rfl rfl rfl ?_ | refine pl_not rfl rfl ?_)
    refine pl_val (.bool false) rfl rfl (val_neBool _ _ _ (by decide +kernel) rfl rfl rfl (by simp [hasM, h0]) w8) ?_
    repeat (first | refine pl_pure hT rfl rfl rfl ?_ | refine pl_nil ?_)
    refine rn_sub ?_ (hjoin _ w8 ⟨rfl, rfl⟩)
    exact ⟨rfl, rfl, rfl, rfl, rfl, rfl, trivial⟩
end E
end Go.Proofs.Ytcnjmjdnlhiflab
