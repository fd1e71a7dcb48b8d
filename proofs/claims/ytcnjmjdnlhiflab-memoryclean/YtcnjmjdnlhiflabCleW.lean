/- MemoryClean walked: it returns true. -/
import Derived.Test.YtcnjmjdnlhiflabMoD
namespace Go.Proofs.Ytcnjmjdnlhiflab
set_option maxRecDepth 20000
namespace E
open Go.Proofs

/-- A word that is put as it is. -/
theorem put_same {W : List Int} {D : List Bool} (h : W.length = 112) {i x : Int} (hx : loadW W i = x) : putW W i x = W ∧ putD W D i x = D := by
  unfold putW putD
  cases hb : hasM i with
  | false => simp
  | true =>
    have hi : 0 ≤ i ∧ i < 112 := by simpa [hasM] using hb
    have hx' : W.getD i.toNat 0 = x := by
      unfold loadW at hx
      rwa [hb, if_pos rfl] at hx
    simp only [if_true, hx', set_same (show i.toNat < W.length by omega) hx', and_self]
theorem loadW_nat {W : List Int} {k : Nat} (hk : k < 112) : loadW W (k : Nat) = W.getD k 0 := by
  unfold loadW
  rw [if_pos (by simp [hasM]; omega)]
  simp

theorem clean_ret {w : World} {lv : Value} {st : List MStep} (h0 : ArgM w.heap.size w lv st) :
    Ret Try.prog 5 [lv] w fun v w' => v = .bool true ∧ Keep [] w w' := by
  refine ret_of 115 Try.func5 rfl rfl (by simp) ?_
  obtain ⟨la, lcap, hlv⟩ := h0.form
  repeat (first | refine pl_pure hT rfl rfl rfl ?_ | refine pl_nil ?_ | refine rn_seq ?_ | refine rn_plain ?_ | refine rn_block ?_ | refine rn_inBlock ?_ | refine rn_skip ?_ | refine rn_true rfl ?_ | refine rn_false rfl ?_ | refine rn_exit rfl ?_ | refine pl_not rfl rfl ?_)
  refine pl_op rfl rfl (opTo_call rfl rfl rfl rfl (by decide +kernel) ((memoryBegun_ret w).mono ?_))
  rintro v w1 ⟨rfl, hk1⟩
  repeat (first | refine pl_pure hT rfl rfl rfl ?_ | refine pl_nil ?_ | refine rn_seq ?_ | refine rn_plain ?_ | refine rn_block ?_ | refine rn_inBlock ?_ | refine rn_skip ?_ | refine rn_true rfl ?_ | refine rn_false rfl ?_ | refine rn_exit rfl ?_ | refine pl_not rfl rfl ?_)
  refine pl_val (.int .i64 st.length) rfl rfl (val_pure hT (by rw [hlv]; rfl) w1) ?_
  by_cases hbig : st.length > 150
  · refine pl_val (.bool true) rfl rfl (val_int .i64 _ 150 _ rfl rfl rfl (by simp [intOp]; omega) w1) ?_
    repeat (first | refine pl_pure hT rfl rfl rfl ?_ | refine pl_nil ?_ | refine rn_seq ?_ | refine rn_plain ?_ | refine rn_block ?_ | refine rn_inBlock ?_ | refine rn_skip ?_ | refine rn_true rfl ?_ | refine rn_false rfl ?_ | refine rn_exit rfl ?_ | refine pl_not rfl rfl ?_)
    exact rn_ret Try.func5 (.inl ⟨_, rfl, rfl⟩) ⟨rfl, hk1⟩
  refine pl_val (.bool false) rfl rfl (val_int .i64 _ 150 _ rfl rfl rfl (by simp [intOp]; omega) w1) ?_
  repeat (first | refine pl_pure hT rfl rfl rfl ?_ | refine pl_nil ?_ | refine rn_seq ?_ | refine rn_plain ?_ | refine rn_block ?_ | refine rn_inBlock ?_ | refine rn_skip ?_ | refine rn_true rfl ?_ | refine rn_false rfl ?_ | refine rn_exit rfl ?_ | refine pl_not rfl rfl ?_)
  refine pl_op rfl rfl (opTo_call rfl rfl rfl rfl (by decide +kernel) ((new_ret w1).mono ?_))
  rintro v w2 ⟨rfl, h2, hk2⟩
  rw [show List.replicate 272 (0 : Int) = S0 from rfl] at h2
  have hkw2 := hk1.tr0 hk2
  have hB : w.heap.size ≤ w1.heap.size := hk1.size
  generalize w1.heap.size = d at *
  repeat (first | refine pl_pure hT rfl rfl rfl ?_ | refine pl_nil ?_ | refine rn_seq ?_ | refine rn_plain ?_ | refine rn_block ?_ | refine rn_inBlock ?_ | refine rn_skip ?_ | refine rn_true rfl ?_ | refine rn_false rfl ?_ | refine rn_exit rfl ?_ | refine pl_not rfl rfl ?_)
  refine pl_op rfl rfl (opTo_call rfl rfl rfl rfl (by decide +kernel) ((open_ret d w2).mono ?_))
  rintro v w3 ⟨rfl, hs3, hk3⟩
  have h3 := h2.keep hk3 (by simp)
  have hkw3 := hkw2.tr0 hk3
  generalize w2.heap.size = s at *
  refine pl_op rfl rfl (opTo_call rfl rfl rfl rfl (by decide +kernel) ((mnew_ret hs3 h3).mono ?_))
  rintro v w4 ⟨m, rfl, hle, hm4, hk4⟩
  have hdm : d ≤ m := by have := (h3.lt d (by simp [fpD])).2; omega
  have h4 := fresh_st hm4 hs3 h3 good0 hk4 hdm
  have hkw4 := hkw3.tr0 hk4
  clear hm4 hs3 h3 h2 hk1 hk2 hk3 hkw2 hkw3 hk4 hle
  generalize hw0 : (Value.slice none 0 0) = wv0 at h4
  repeat (first | refine pl_pure hT rfl rfl rfl ?_ | refine pl_nil ?_ | refine rn_seq ?_ | refine rn_plain ?_ | refine rn_block ?_ | refine rn_inBlock ?_ | refine rn_skip ?_ | refine rn_true rfl ?_ | refine rn_false rfl ?_ | refine rn_exit rfl ?_ | refine pl_not rfl rfl ?_)
  refine rn_ind (fun q σ w' => ∃ j W D, q = st.length - j ∧ j ≤ st.length ∧ σ = [(0, lv), (3, .pointer (some ⟨d, 0, none⟩)), (4, .pointer (some ⟨m, 0, none⟩)), (5, .int .i64 (j : Nat))] ∧
      Keep [] w w' ∧ St d w' d s m S0 W D wv0)
    (st.length - 0) _ ?_ ⟨0, _, _, rfl, Nat.zero_le _, rfl, hkw4, h4⟩ ?_
  · exact ⟨rfl, rfl, rfl, rfl, trivial⟩
  clear h4 hkw4
  rintro q σ w5 ih ⟨j, W, D, hq, hj, rfl, hk5, h5⟩
  repeat (first | refine pl_pure hT rfl rfl rfl ?_ | refine pl_nil ?_ | refine rn_seq ?_ | refine rn_plain ?_ | refine rn_block ?_ | refine rn_inBlock ?_ | refine rn_skip ?_ | refine rn_true rfl ?_ | refine rn_false rfl ?_ | refine rn_exit rfl ?_ | refine pl_not rfl rfl ?_)
  refine pl_val (.int .i64 st.length) rfl rfl (val_pure hT (by rw [hlv]; rfl) w5) ?_
  rcases Nat.lt_or_ge j st.length with hlt | hge
  · refine pl_val (.bool true) rfl rfl (val_int .i64 _ _ _ rfl rfl rfl (by simp [intOp]; omega) w5) ?_
    obtain ⟨u, hu⟩ : ∃ u, st[j]? = some u := ⟨_, List.getElem?_eq_getElem hlt⟩
    obtain ⟨b, o, cap, hv', hb, hr⟩ := (h0.keep hk5 (by simp)).at hu
    have hbl : b < w5.heap.size := Nat.lt_of_lt_of_le hb hk5.size
    repeat (first | refine pl_pure hT rfl rfl rfl ?_ | refine pl_nil ?_ | refine rn_seq ?_ | refine rn_plain ?_ | refine rn_block ?_ | refine rn_inBlock ?_ | refine rn_skip ?_ | refine rn_true rfl ?_ | refine rn_false rfl ?_ | refine rn_exit rfl ?_ | refine pl_not rfl rfl ?_)
    refine pl_val _ rfl rfl (val_index j hT rfl (by rw [hv']; rfl) rfl rfl rfl hlt w5) ?_
    repeat (first | refine pl_pure hT rfl rfl rfl ?_ | refine pl_nil ?_ | refine rn_seq ?_ | refine rn_plain ?_ | refine rn_block ?_ | refine rn_inBlock ?_ | refine rn_skip ?_ | refine rn_true rfl ?_ | refine rn_false rfl ?_ | refine rn_exit rfl ?_ | refine pl_not rfl rfl ?_)
    refine pl_val (.int .i64 u.d) rfl rfl (val_load1 hT rfl rfl rfl (hr 0 _ rfl)) ?_
    by_cases hd : u.d = 0
    · refine pl_val (.bool true) rfl rfl (val_int .i64 _ 0 _ rfl rfl rfl (by simp [intOp, hd]) w5) ?_
      repeat (first | refine pl_pure hT rfl rfl rfl ?_ | refine pl_nil ?_ | refine rn_seq ?_ | refine rn_plain ?_ | refine rn_block ?_ | refine rn_inBlock ?_ | refine rn_skip ?_ | refine rn_true rfl ?_ | refine rn_false rfl ?_ | refine rn_exit rfl ?_ | refine pl_not rfl rfl ?_)
      have hS0 : w5.drew.rangeAt b (o + j * 5) (scell u) := hr
      refine rn_draw (fun w' => w'.rangeAt b (o + j * 5) (scell u)) [] hMix ?_
      refine dr_pure 0 hT rfl (by decide +kernel) rfl rfl rfl ?_
      refine dr_pure 1 hT rfl (by decide +kernel) rfl rfl rfl ?_
      refine dr_pure 2 hT rfl (by decide +kernel) rfl rfl rfl ?_
      refine dr_any 3 _ rfl (by decide +kernel) rfl rfl (fun w' => val_index j hT rfl (by rw [hv']; rfl) rfl rfl rfl hlt w') ?_
      refine dr_pure 4 hT rfl (by decide +kernel) rfl rfl rfl ?_
      refine dr_val 5 (.int .i64 u.a) rfl (by decide +kernel) rfl rfl (fun w' hk => val_load1 hT rfl rfl rfl (hk 1 _ rfl)) hS0 ?_
      refine dr_pure 6 hT rfl (by decide +kernel) rfl rfl rfl ?_
      refine dr_pure 7 hT rfl (by decide +kernel) rfl rfl rfl ?_
      refine dr_any 8 _ rfl (by decide +kernel) rfl rfl (fun w' => val_index j hT rfl (by rw [hv']; rfl) rfl rfl rfl hlt w') ?_
      refine dr_pure 9 hT rfl (by decide +kernel) rfl rfl rfl ?_
      refine dr_val 10 (.int .i64 u.x) rfl (by decide +kernel) rfl rfl (fun w' hk => val_load1 hT rfl rfl rfl (hk 3 _ rfl)) hS0 ?_
      refine dr_op 11 rfl (by decide +kernel) rfl rfl (opTo_call rfl rfl rfl rfl (by decide +kernel) ((puts_ret (h5.keep0 ((Keep.refl [] w5).drew)) u.a u.x).mono ?_))
      rintro v w6 ⟨rfl, h6, hk6⟩
      have hmd := h5.hm
      have hkw6 : Keep [] w w6 := (hk5.drew).trans hk6 fun k hk => .inr (by simp at hk; omega)
      refine ⟨fun _ => hk6.range hS0 hbl (by simp; omega), ?_⟩
      refine dr_done (by decide +kernel) ?_
      repeat (first | refine pl_pure hT rfl rfl rfl ?_ | refine pl_nil ?_ | refine rn_seq ?_ | refine rn_plain ?_ | refine rn_block ?_ | refine rn_inBlock ?_ | refine rn_skip ?_ | refine rn_true rfl ?_ | refine rn_false rfl ?_ | refine rn_exit rfl ?_ | refine pl_not rfl rfl ?_)
      refine pl_val (.int .i64 ((j + 1 : Nat) : Int)) rfl rfl (val_int .i64 j 1 _ rfl rfl rfl (by simp only [intOp]; rw [wrap_i64 (by omega) (by omega)]; rfl) w6) ?_
      repeat (first | refine pl_pure hT rfl rfl rfl ?_ | refine pl_nil ?_ | refine rn_seq ?_ | refine rn_plain ?_ | refine rn_block ?_ | refine rn_inBlock ?_ | refine rn_skip ?_ | refine rn_true rfl ?_ | refine rn_false rfl ?_ | refine rn_exit rfl ?_ | refine pl_not rfl rfl ?_)
      refine rn_sub ?_ (ih (st.length - (j + 1)) _ w6 (by omega) ⟨j + 1, _, _, rfl, hlt, rfl, hkw6, h6⟩)
      exact ⟨rfl, rfl, rfl, rfl, trivial⟩
    · refine pl_val (.bool false) rfl rfl (val_int .i64 _ 0 _ rfl rfl rfl (by simp [intOp, hd]) w5) ?_
      repeat (first | refine pl_pure hT rfl rfl rfl ?_ | refine pl_nil ?_ | refine rn_seq ?_ | refine rn_plain ?_ | refine rn_block ?_ | refine rn_inBlock ?_ | refine rn_skip ?_ | refine rn_true rfl ?_ | refine rn_false rfl ?_ | refine rn_exit rfl ?_ | refine pl_not rfl rfl ?_)
      refine pl_val (.int .i64 ((j + 1 : Nat) : Int)) rfl rfl (val_int .i64 j 1 _ rfl rfl rfl (by simp only [intOp]; rw [wrap_i64 (by omega) (by omega)]; rfl) w5) ?_
      repeat (first | refine pl_pure hT rfl rfl rfl ?_ | refine pl_nil ?_ | refine rn_seq ?_ | refine rn_plain ?_ | refine rn_block ?_ | refine rn_inBlock ?_ | refine rn_skip ?_ | refine rn_true rfl ?_ | refine rn_false rfl ?_ | refine rn_exit rfl ?_ | refine pl_not rfl rfl ?_)
      refine rn_sub ?_ (ih (st.length - (j + 1)) _ w5 (by omega) ⟨j + 1, _, _, rfl, hlt, rfl, hk5, h5⟩)
      exact ⟨rfl, rfl, rfl, rfl, trivial⟩
  refine pl_val (.bool false) rfl rfl (val_int .i64 _ _ _ rfl rfl rfl (by simp [intOp]; omega) w5) ?_
  clear ih
  repeat (first | refine pl_pure hT rfl rfl rfl ?_ | refine pl_nil ?_ | refine rn_seq ?_ | refine rn_plain ?_ | refine rn_block ?_ | refine rn_inBlock ?_ | refine rn_skip ?_ | refine rn_true rfl ?_ | refine rn_false rfl ?_ | refine rn_exit rfl ?_ | refine pl_not rfl rfl ?_)
  refine pl_op rfl rfl (opTo_call rfl rfl rfl rfl (by decide +kernel) ((all_ret h5.mem).mono ?_))
  rintro av w6 ⟨ha6, hk6⟩
  have h6 := h5.keep0 hk6
  have hkw6 := hk5.tr0 hk6
  clear h5 hk5 hk6
  repeat (first | refine pl_pure hT rfl rfl rfl ?_ | refine pl_nil ?_ | refine rn_seq ?_ | refine rn_plain ?_ | refine rn_block ?_ | refine rn_inBlock ?_ | refine rn_skip ?_ | refine rn_true rfl ?_ | refine rn_false rfl ?_ | refine rn_exit rfl ?_ | refine pl_not rfl rfl ?_)
  refine pl_op rfl rfl (opTo_call rfl rfl rfl rfl (by decide +kernel) ((syncs_ret h6 (by rw [genS0]; decide) (-1) (doneB_neg _)).mono ?_))
  rintro v w7 ⟨rfl, S7, wv7, h7, hg7, _, hk7⟩
  have hkw7 : Keep [] w w7 := hkw6.trans hk7 fun k hk => .inr (Nat.le_trans hB (h6.fp k hk))
  have ha7 := h6.wds ha6 hk7
  rw [genS0] at hg7
  clear h6 hkw6 ha6 hk7
  repeat (first | refine pl_pure hT rfl rfl rfl ?_ | refine pl_nil ?_ | refine rn_seq ?_ | refine rn_plain ?_ | refine rn_block ?_ | refine rn_inBlock ?_ | refine rn_skip ?_ | refine rn_true rfl ?_ | refine rn_false rfl ?_ | refine rn_exit rfl ?_ | refine pl_not rfl rfl ?_)
  refine pl_op rfl rfl (opTo_call rfl rfl rfl rfl (by decide +kernel) ((dirty_ret h7.mem).mono ?_))
  rintro v w8 ⟨hp8, hk8⟩
  obtain ⟨pa, pcap, rfl⟩ := hp8.form
  rw [clean_none]
  have h8 := h7.keep0 hk8
  have hkw8 := hkw7.tr0 hk8
  have ha8 := ha7.keep0 hk8
  clear hp8 h7 hkw7 ha7 hk8
  repeat (first | refine pl_pure hT rfl rfl rfl ?_ | refine pl_nil ?_ | refine rn_seq ?_ | refine rn_plain ?_ | refine rn_block ?_ | refine rn_inBlock ?_ | refine rn_skip ?_ | refine rn_true rfl ?_ | refine rn_false rfl ?_ | refine rn_exit rfl ?_ | refine pl_not rfl rfl ?_)
  refine pl_val (.bool false) rfl rfl (val_int .i64 0 0 _ rfl rfl rfl rfl w8) ?_
  obtain ⟨g, cap, rfl, _⟩ := ha8.at
  repeat (first | refine pl_pure hT rfl rfl rfl ?_ | refine pl_nil ?_ | refine rn_seq ?_ | refine rn_plain ?_ | refine rn_block ?_ | refine rn_inBlock ?_ | refine rn_skip ?_ | refine rn_true rfl ?_ | refine rn_false rfl ?_ | refine rn_exit rfl ?_ | refine pl_not rfl rfl ?_)
  refine rn_ind (fun q σ w' => ∃ k, q = 112 - k ∧ k ≤ 112 ∧ σ = [(0, lv), (3, .pointer (some ⟨d, 0, none⟩)), (4, .pointer (some ⟨m, 0, none⟩)), (6, .slice (some ⟨g, 0, none⟩) 112 cap), (7, .int .i64 (k : Nat))] ∧
      Keep [] w w' ∧ St d w' d s m S7 W (List.replicate 14 false) wv7 ∧ Wds w' (.slice (some ⟨g, 0, none⟩) 112 cap) W)
    (112 - 0) _ ?_ ⟨0, rfl, Nat.zero_le _, rfl, hkw8, h8, ha8⟩ ?_
  · exact ⟨rfl, rfl, rfl, rfl, rfl, trivial⟩
  clear h8 hkw8 ha8
  rintro q σ w9 ih ⟨k, hq, hk, rfl, hk9, h9, ha9⟩
  repeat (first | refine pl_pure hT rfl rfl rfl ?_ | refine pl_nil ?_ | refine rn_seq ?_ | refine rn_plain ?_ | refine rn_block ?_ | refine rn_inBlock ?_ | refine rn_skip ?_ | refine rn_true rfl ?_ | refine rn_false rfl ?_ | refine rn_exit rfl ?_ | refine pl_not rfl rfl ?_)
  rcases Nat.lt_or_ge k 112 with hlt | hge2
  · refine pl_val (.bool true) rfl rfl (val_int .i64 _ _ _ rfl rfl rfl (by simp [intOp]; omega) w9) ?_
    obtain ⟨g', cap', e', _, _, hca⟩ := ha9.at
    injection e' with e1 _ _
    cases e1
    repeat (first | refine pl_pure hT rfl rfl rfl ?_ | refine pl_nil ?_ | refine rn_seq ?_ | refine rn_plain ?_ | refine rn_block ?_ | refine rn_inBlock ?_ | refine rn_skip ?_ | refine rn_true rfl ?_ | refine rn_false rfl ?_ | refine rn_exit rfl ?_ | refine pl_not rfl rfl ?_)
    refine pl_val _ rfl rfl (val_index k hT rfl rfl rfl rfl rfl hlt w9) ?_
    refine pl_val _ rfl rfl (val_load1 hT rfl rfl rfl (hca k hlt)) ?_
    refine pl_op rfl rfl (opTo_call rfl rfl rfl rfl (by decide +kernel) ((puts_ret h9 (k : Nat) (W.getD k 0)).mono ?_))
    rintro v w10 ⟨rfl, h10, hk10⟩
    obtain ⟨e1, e2⟩ := put_same (D := List.replicate 14 false) h9.mem.wl (loadW_nat (W := W) hlt)
    rw [e1, e2] at h10
    have hkw10 : Keep [] w w10 := hk9.trans hk10 fun k hk => .inr (by have := h9.hm; simp at hk; omega)
    repeat (first | refine pl_pure hT rfl rfl rfl ?_ | refine pl_nil ?_ | refine rn_seq ?_ | refine rn_plain ?_ | refine rn_block ?_ | refine rn_inBlock ?_ | refine rn_skip ?_ | refine rn_true rfl ?_ | refine rn_false rfl ?_ | refine rn_exit rfl ?_ | refine pl_not rfl rfl ?_)
    refine pl_val (.int .i64 ((k + 1 : Nat) : Int)) rfl rfl (val_int .i64 k 1 _ rfl rfl rfl (by simp only [intOp]; rw [wrap_i64 (by omega) (by omega)]; rfl) w10) ?_
    repeat (first | refine pl_pure hT rfl rfl rfl ?_ | refine pl_nil ?_ | refine rn_seq ?_ | refine rn_plain ?_ | refine rn_block ?_ | refine rn_inBlock ?_ | refine rn_skip ?_ | refine rn_true rfl ?_ | refine rn_false rfl ?_ | refine rn_exit rfl ?_ | refine pl_not rfl rfl ?_)
    refine rn_sub ?_ (ih (112 - (k + 1)) _ w10 (by omega) ⟨k + 1, rfl, hlt, rfl, hkw10, h10, h9.wds1 ha9 hk10⟩)
    exact ⟨rfl, rfl, rfl, rfl, rfl, trivial⟩
  refine pl_val (.bool false) rfl rfl (val_int .i64 _ _ _ rfl rfl rfl (by simp [intOp]; omega) w9) ?_
  clear ih
  repeat (first | refine pl_pure hT rfl rfl rfl ?_ | refine pl_nil ?_ | refine rn_seq ?_ | refine rn_plain ?_ | refine rn_block ?_ | refine rn_inBlock ?_ | refine rn_skip ?_ | refine rn_true rfl ?_ | refine rn_false rfl ?_ | refine rn_exit rfl ?_ | refine pl_not rfl rfl ?_)
  refine pl_op rfl rfl (opTo_call rfl rfl rfl rfl (by decide +kernel) ((dirty_ret h9.mem).mono ?_))
  rintro v w10 ⟨hp10, hk10⟩
  obtain ⟨pa, pcap, rfl⟩ := hp10.form
  rw [clean_none]
  have h10 := h9.keep0 hk10
  have hkw10 := hk9.tr0 hk10
  have ha10 := ha9.keep0 hk10
  clear hp10 h9 hk9 ha9 hk10
  repeat (first | refine pl_pure hT rfl rfl rfl ?_ | refine pl_nil ?_ | refine rn_seq ?_ | refine rn_plain ?_ | refine rn_block ?_ | refine rn_inBlock ?_ | refine rn_skip ?_ | refine rn_true rfl ?_ | refine rn_false rfl ?_ | refine rn_exit rfl ?_ | refine pl_not rfl rfl ?_)
  refine pl_val (.bool false) rfl rfl (val_int .i64 0 0 _ rfl rfl rfl rfl w10) ?_
  repeat (first | refine pl_pure hT rfl rfl rfl ?_ | refine pl_nil ?_ | refine rn_seq ?_ | refine rn_plain ?_ | refine rn_block ?_ | refine rn_inBlock ?_ | refine rn_skip ?_ | refine rn_true rfl ?_ | refine rn_false rfl ?_ | refine rn_exit rfl ?_ | refine pl_not rfl rfl ?_)
  refine pl_op rfl rfl (opTo_call rfl rfl rfl rfl (by decide +kernel) ((syncs_ret h10 (by rw [hg7]; decide) (-1) (doneB_neg _)).mono ?_))
  rintro v w11 ⟨rfl, S11, wv11, h11, _, hall11, hk11⟩
  have hkw11 : Keep [] w w11 := hkw10.trans hk11 fun k hk => .inr (Nat.le_trans hB (h10.fp k hk))
  have ha11 := h10.wds ha10 hk11
  clear h10 hkw10 ha10 hk11
  repeat (first | refine pl_pure hT rfl rfl rfl ?_ | refine pl_nil ?_ | refine rn_seq ?_ | refine rn_plain ?_ | refine rn_block ?_ | refine rn_inBlock ?_ | refine rn_skip ?_ | refine rn_true rfl ?_ | refine rn_false rfl ?_ | refine rn_exit rfl ?_ | refine pl_not rfl rfl ?_)
  refine pl_op rfl rfl (opTo_call rfl rfl rfl rfl (by decide +kernel) ((open_ret d w11).mono ?_))
  rintro v w12 ⟨rfl, hs12, hk12⟩
  have h12 := h11.keep0 hk12
  generalize w11.heap.size = s2 at *
  refine pl_op rfl rfl (opTo_call rfl rfl rfl rfl (by decide +kernel) ((mnew_ret hs12 h12.dsk).mono ?_))
  rintro v w13 ⟨n, rfl, hle, hn13, hk13⟩
  rw [hall11] at hn13
  have hk1113 := hk12.tr0 hk13
  have hm13 := h11.mem.keep hk1113 (by simp)
  have hnm : n ≠ m := by have := h12.mem.blk.lt; omega
  have hnd : w.heap.size ≤ n := Nat.le_trans (Nat.le_trans hkw11.size hk12.size) hle
  have hkw13 := hkw11.tr0 hk1113
  have ha13 := ha11.keep0 hk1113
  clear h12 hs12 hk12 hk13 hk1113 hkw11 ha11 h11 hle
  repeat (first | refine pl_pure hT rfl rfl rfl ?_ | refine pl_nil ?_ | refine rn_seq ?_ | refine rn_plain ?_ | refine rn_block ?_ | refine rn_inBlock ?_ | refine rn_skip ?_ | refine rn_true rfl ?_ | refine rn_false rfl ?_ | refine rn_exit rfl ?_ | refine pl_not rfl rfl ?_)
  refine rn_ind (fun q σ w' => ∃ j, q = st.length - j ∧ j ≤ st.length ∧ σ = [(0, lv), (4, .pointer (some ⟨m, 0, none⟩)), (6, .slice (some ⟨g, 0, none⟩) 112 cap), (8, .pointer (some ⟨n, 0, none⟩)), (9, .int .i64 (j : Nat))] ∧
      Keep [] w w' ∧ MemV w' m s W (List.replicate 14 false) ∧ MemV w' n s2 W (List.replicate 14 false) ∧ Wds w' (.slice (some ⟨g, 0, none⟩) 112 cap) W)
    (st.length - 0) _ ?_ ⟨0, rfl, Nat.zero_le _, rfl, hkw13, hm13, hn13, ha13⟩ ?_
  · exact ⟨rfl, rfl, rfl, rfl, rfl, trivial⟩
  clear hm13 hkw13 ha13 hn13
  rintro q σ w14 ih ⟨j, hq, hj, rfl, hk14, hm14, hn14, ha14⟩
  repeat (first | refine pl_pure hT rfl rfl rfl ?_ | refine pl_nil ?_ | refine rn_seq ?_ | refine rn_plain ?_ | refine rn_block ?_ | refine rn_inBlock ?_ | refine rn_skip ?_ | refine rn_true rfl ?_ | refine rn_false rfl ?_ | refine rn_exit rfl ?_ | refine pl_not rfl rfl ?_)
  refine pl_val (.int .i64 st.length) rfl rfl (val_pure hT (by rw [hlv]; rfl) w14) ?_
  rcases Nat.lt_or_ge j st.length with hlt | hge3
  · refine pl_val (.bool true) rfl rfl (val_int .i64 _ _ _ rfl rfl rfl (by simp [intOp]; omega) w14) ?_
    obtain ⟨u, hu⟩ : ∃ u, st[j]? = some u := ⟨_, List.getElem?_eq_getElem hlt⟩
    obtain ⟨b, o, cap', hv', hb, hr⟩ := (h0.keep hk14 (by simp)).at hu
    have hbl : b < w14.heap.size := Nat.lt_of_lt_of_le hb hk14.size
    repeat (first | refine pl_pure hT rfl rfl rfl ?_ | refine pl_nil ?_ | refine rn_seq ?_ | refine rn_plain ?_ | refine rn_block ?_ | refine rn_inBlock ?_ | refine rn_skip ?_ | refine rn_true rfl ?_ | refine rn_false rfl ?_ | refine rn_exit rfl ?_ | refine pl_not rfl rfl ?_)
    have hS0 : w14.drew.rangeAt b (o + j * 5) (scell u) := hr
    refine rn_draw (fun w' => w'.rangeAt b (o + j * 5) (scell u)) [] hMix ?_
    refine dr_pure 0 hT rfl (by decide +kernel) rfl rfl rfl ?_
    refine dr_pure 1 hT rfl (by decide +kernel) rfl rfl rfl ?_
    refine dr_pure 2 hT rfl (by decide +kernel) rfl rfl rfl ?_
    refine dr_any 3 _ rfl (by decide +kernel) rfl rfl (fun w' => val_index j hT rfl (by rw [hv']; rfl) rfl rfl rfl hlt w') ?_
    refine dr_pure 4 hT rfl (by decide +kernel) rfl rfl rfl ?_
    refine dr_val 5 (.int .i64 u.a) rfl (by decide +kernel) rfl rfl (fun w' hk => val_load1 hT rfl rfl rfl (hk 1 _ rfl)) hS0 ?_
    refine dr_pure 6 hT rfl (by decide +kernel) rfl rfl rfl ?_
    refine dr_pure 7 hT rfl (by decide +kernel) rfl rfl rfl ?_
    refine dr_pure 8 hT rfl (by decide +kernel) rfl rfl rfl ?_
    refine dr_any 9 _ rfl (by decide +kernel) rfl rfl (fun w' => val_index j hT rfl (by rw [hv']; rfl) rfl rfl rfl hlt w') ?_
    refine dr_pure 10 hT rfl (by decide +kernel) rfl rfl rfl ?_
    refine dr_val 11 (.int .i64 u.a) rfl (by decide +kernel) rfl rfl (fun w' hk => val_load1 hT rfl rfl rfl (hk 1 _ rfl)) hS0 ?_
    have hn14' : MemV w14.drew n s2 W (List.replicate 14 false) := hn14.keep ((Keep.refl [] w14).drew) (by simp)
    refine dr_op 12 rfl (by decide +kernel) rfl rfl (opTo_call rfl rfl rfl rfl (by decide +kernel) ((load_ret hn14' u.a).mono ?_))
    rintro v w15 ⟨rfl, rfl⟩
    refine ⟨fun _ => hS0, ?_⟩
    refine dr_op 13 rfl (by decide +kernel) rfl rfl (opTo_call rfl rfl rfl rfl (by decide +kernel) ((put_ret hn14' u.a (loadW W u.a)).mono ?_))
    rintro v w16 ⟨rfl, h16, hk16⟩
    obtain ⟨e1, e2⟩ := put_same (D := List.replicate 14 false) hn14.wl (rfl : loadW W u.a = _)
    rw [e1, e2] at h16
    have hk16' : Keep [n] w14 w16 := ((Keep.refl [n] w14).drew).tr hk16
    have hkw16 : Keep [] w w16 := hk14.trans hk16' fun k hk => .inr (by simp at hk; omega)
    refine ⟨fun _ => hk16.range hS0 hbl (by simp; omega), ?_⟩
    refine dr_done (by decide +kernel) ?_
    repeat (first | refine pl_pure hT rfl rfl rfl ?_ | refine pl_nil ?_ | refine rn_seq ?_ | refine rn_plain ?_ | refine rn_block ?_ | refine rn_inBlock ?_ | refine rn_skip ?_ | refine rn_true rfl ?_ | refine rn_false rfl ?_ | refine rn_exit rfl ?_ | refine pl_not rfl rfl ?_)
    refine pl_val (.int .i64 ((j + 1 : Nat) : Int)) rfl rfl (val_int .i64 j 1 _ rfl rfl rfl (by simp only [intOp]; rw [wrap_i64 (by omega) (by omega)]; rfl) w16) ?_
    repeat (first | refine pl_pure hT rfl rfl rfl ?_ | refine pl_nil ?_ | refine rn_seq ?_ | refine rn_plain ?_ | refine rn_block ?_ | refine rn_inBlock ?_ | refine rn_skip ?_ | refine rn_true rfl ?_ | refine rn_false rfl ?_ | refine rn_exit rfl ?_ | refine pl_not rfl rfl ?_)
    refine rn_sub ?_ (ih (st.length - (j + 1)) _ w16 (by omega) ⟨j + 1, rfl, hlt, rfl, hkw16, hm14.keep hk16' (by simp; omega), h16, ha14.keep hk16' fun k L hk hb => Blk.ne hb hn14.blk (by decide) (by simpa using hk)⟩)
    exact ⟨rfl, rfl, rfl, rfl, rfl, trivial⟩
  refine pl_val (.bool false) rfl rfl (val_int .i64 _ _ _ rfl rfl rfl (by simp [intOp]; omega) w14) ?_
  clear ih
  repeat (first | refine pl_pure hT rfl rfl rfl ?_ | refine pl_nil ?_ | refine rn_seq ?_ | refine rn_plain ?_ | refine rn_block ?_ | refine rn_inBlock ?_ | refine rn_skip ?_ | refine rn_true rfl ?_ | refine rn_false rfl ?_ | refine rn_exit rfl ?_ | refine pl_not rfl rfl ?_)
  refine pl_op rfl rfl (opTo_call rfl rfl rfl rfl (by decide +kernel) ((all_ret hm14).mono ?_))
  rintro v w15 ⟨hb15, hk15⟩
  repeat (first | refine pl_pure hT rfl rfl rfl ?_ | refine pl_nil ?_ | refine rn_seq ?_ | refine rn_plain ?_ | refine rn_block ?_ | refine rn_inBlock ?_ | refine rn_skip ?_ | refine rn_true rfl ?_ | refine rn_false rfl ?_ | refine rn_exit rfl ?_ | refine pl_not rfl rfl ?_)
  refine pl_op rfl rfl (opTo_call rfl rfl rfl rfl (by decide +kernel) ((longs_ret hb15 (ha14.keep0 hk15)).mono ?_))
  rintro v w16 ⟨rfl, hk16⟩
  have hk1 := hk15.tr0 hk16
  repeat (first | refine pl_pure hT rfl rfl rfl ?_ | refine pl_nil ?_ | refine rn_seq ?_ | refine rn_plain ?_ | refine rn_block ?_ | refine rn_inBlock ?_ | refine rn_skip ?_ | refine rn_true rfl ?_ | refine rn_false rfl ?_ | refine rn_exit rfl ?_ | refine pl_not rfl rfl ?_)
  refine pl_op rfl rfl (opTo_call rfl rfl rfl rfl (by decide +kernel) ((all_ret (hn14.keep hk1 (by simp))).mono ?_))
  rintro v w17 ⟨hb17, hk17⟩
  have hk2 := hk1.tr0 hk17
  repeat (first | refine pl_pure hT rfl rfl rfl ?_ | refine pl_nil ?_ | refine rn_seq ?_ | refine rn_plain ?_ | refine rn_block ?_ | refine rn_inBlock ?_ | refine rn_skip ?_ | refine rn_true rfl ?_ | refine rn_false rfl ?_ | refine rn_exit rfl ?_ | refine pl_not rfl rfl ?_)
  refine pl_op rfl rfl (opTo_call rfl rfl rfl rfl (by decide +kernel) ((longs_ret hb17 (ha14.keep0 hk2)).mono ?_))
  rintro v w18 ⟨rfl, hk18⟩
  have hk3 := hk2.tr0 hk18
  repeat (first | refine pl_pure hT rfl rfl rfl ?_ | refine pl_nil ?_ | refine rn_seq ?_ | refine rn_plain ?_ | refine rn_block ?_ | refine rn_inBlock ?_ | refine rn_skip ?_ | refine rn_true rfl ?_ | refine rn_false rfl ?_ | refine rn_exit rfl ?_ | refine pl_not rfl rfl ?_)
  refine pl_op rfl rfl (opTo_call rfl rfl rfl rfl (by decide +kernel) ((dirty_ret (hn14.keep hk3 (by simp))).mono ?_))
  rintro v w19 ⟨hp19, hk19⟩
  obtain ⟨pa, pcap, rfl⟩ := hp19.form
  rw [clean_none]
  repeat (first | refine pl_pure hT rfl rfl rfl ?_ | refine pl_nil ?_ | refine rn_seq ?_ | refine rn_plain ?_ | refine rn_block ?_ | refine rn_inBlock ?_ | refine rn_skip ?_ | refine rn_true rfl ?_ | refine rn_false rfl ?_ | refine rn_exit rfl ?_ | refine pl_not rfl rfl ?_)
  refine pl_val (.bool true) rfl rfl (val_int .i64 0 0 _ rfl rfl rfl rfl w19) ?_
  repeat (first | refine pl_pure hT rfl rfl rfl ?_ | refine pl_nil ?_ | refine rn_seq ?_ | refine rn_plain ?_ | refine rn_block ?_ | refine rn_inBlock ?_ | refine rn_skip ?_ | refine rn_true rfl ?_ | refine rn_false rfl ?_ | refine rn_exit rfl ?_ | refine pl_not rfl rfl ?_)
  exact rn_ret Try.func5 (.inl ⟨_, rfl, rfl⟩) ⟨rfl, hk14.tr0 (hk3.tr0 hk19)⟩
end E
end Go.Proofs.Ytcnjmjdnlhiflab
