/- Contracts of slices.Equal of variables, and of Same. -/
import Derived.Test.YtpbdjpoohpocfabSaD
namespace Go.Proofs.Ytpbdjpoohpocfab
set_option maxRecDepth 20000
set_option maxHeartbeats 4000000
namespace E
open Go.Proofs

theorem eqVs_len : ∀ {a b : List VarT}, eqVs a b = true → a.length = b.length
  | [], [], _ => rfl
  | [], _ :: _, h => by simp [eqVs] at h
  | _ :: _, [], h => by simp [eqVs] at h
  | x :: r, y :: s, h => by
    simp only [eqVs, Bool.and_eq_true] at h
    simp [eqVs_len h.2]
theorem eqVs_append : ∀ {a c b d : List VarT}, a.length = c.length → eqVs (a ++ b) (c ++ d) = (eqVs a c && eqVs b d)
  | [], [], _, _, _ => by simp [eqVs]
  | x :: r, y :: s, b, d, h => by
    have := eqVs_append (a := r) (c := s) (b := b) (d := d) (by simpa using h)
    simp only [List.cons_append, eqVs, this, Bool.and_assoc]
  | [], _ :: _, _, _, h => by simp at h
  | _ :: _, [], _, _, h => by simp at h
theorem eqVs_take {a b : List VarT} (h : a.length = b.length) {i : Nat} {x y : VarT} (hx : a[i]? = some x) (hy : b[i]? = some y) : eqVs (a.take (i + 1)) (b.take (i + 1)) = (eqVs (a.take i) (b.take i) && eqV x y) := by
  obtain ⟨h1, e1⟩ := List.getElem?_eq_some_iff.1 hx
  obtain ⟨h2, e2⟩ := List.getElem?_eq_some_iff.1 hy
  rw [List.take_succ_eq_append_getElem h1, List.take_succ_eq_append_getElem h2, eqVs_append (by simp; omega), e1, e2]
  simp [eqVs]
theorem eqVs_split {a b : List VarT} (h : a.length = b.length) {i : Nat} {x y : VarT} (hx : a[i]? = some x) (hy : b[i]? = some y) : eqVs a b = ((eqVs (a.take i) (b.take i) && eqV x y) && eqVs (a.drop (i + 1)) (b.drop (i + 1))) := by
  rw [← eqVs_take h hx hy, ← eqVs_append (by simp; omega), List.take_append_drop, List.take_append_drop]

theorem equalV_ret {F F' : Nat → Prop} {w : World} {x y : Value} {l l' : List VarT} (h : VarsV F w x l) (h' : VarsV F' w y l') (hF : In F w) (hF' : In F' w) (hl : l.length ≤ 1000) :
    Ret Try.prog 75 [x, y] w fun r w' => r = .bool (eqVs l l') ∧ Keep [] w w' := by
  obtain ⟨a, ca, rfl⟩ := h.form
  obtain ⟨b, cb, rfl⟩ := h'.form
  refine ret_of 26 Try.func75 rfl rfl (by simp) ?_
  (repeat (first | refine pl_pure hT rfl rfl rfl ?_ | refine pl_nil ?_ | refine rn_seq ?_ | refine rn_plain ?_ | refine rn_block ?_ | refine rn_inBlock ?_ | refine rn_skip ?_ | refine rn_true rfl ?_ | refine rn_false rfl ?_ | refine rn_exit rfl ?_ | refine pl_not rfl rfl ?_))
  by_cases hn : l.length = l'.length
  · refine pl_no rfl rfl rfl rfl rfl rfl (by first | (simp only [cmpP]; omega) | (simp [cmpP]; done) | (simp [cmpP]; omega)) ?_
    (repeat (first | refine pl_pure hT rfl rfl rfl ?_ | refine pl_nil ?_ | refine rn_seq ?_ | refine rn_plain ?_ | refine rn_block ?_ | refine rn_inBlock ?_ | refine rn_skip ?_ | refine rn_true rfl ?_ | refine rn_false rfl ?_ | refine rn_exit rfl ?_ | refine pl_not rfl rfl ?_))
    refine rn_ind (fun m σ w' => ∃ i : Nat, i ≤ l.length ∧ m = l.length - i ∧ σ = [(0, .slice a l.length ca), (1, .slice b l'.length cb), (12, .int .i64 (l.length : Nat)), (13, .int .i64 (i : Nat))] ∧ eqVs (l.take i) (l'.take i) = true ∧ Keep [] w w')
      l.length _ ?_ ⟨0, by omega, by omega, rfl, by simp [eqVs], Keep.refl _ _⟩ ?_
    · exact ⟨rfl, rfl, rfl, rfl, trivial⟩
    rintro m σ w2 ih ⟨i, hi, rfl, rfl, heq, hk2⟩
    (repeat (first | refine pl_pure hT rfl rfl rfl ?_ | refine pl_nil ?_ | refine rn_seq ?_ | refine rn_plain ?_ | refine rn_block ?_ | refine rn_inBlock ?_ | refine rn_skip ?_ | refine rn_true rfl ?_ | refine rn_false rfl ?_ | refine rn_exit rfl ?_ | refine pl_not rfl rfl ?_))
    by_cases hlt : i < l.length
    · refine pl_yes rfl rfl rfl rfl rfl (by first | (simp only [cmpP]; omega) | (simp [cmpP]; done) | (simp [cmpP]; omega)) ?_
      (repeat (first | refine pl_pure hT rfl rfl rfl ?_ | refine pl_nil ?_ | refine rn_seq ?_ | refine rn_plain ?_ | refine rn_block ?_ | refine rn_inBlock ?_ | refine rn_skip ?_ | refine rn_true rfl ?_ | refine rn_false rfl ?_ | refine rn_exit rfl ?_ | refine pl_not rfl rfl ?_))
      have hx : l[i]? = some l[i] := List.getElem?_eq_getElem hlt
      have hy : l'[i]? = some (l'[i]'(by omega)) := List.getElem?_eq_getElem (by omega)
      obtain ⟨b1, q1, _, hv, hF1, hr1⟩ := h.at hx
      cases hv
      obtain ⟨b2, q2, _, hv, hF2, hr2⟩ := h'.at hy
      cases hv
      have hsp := eqVs_split hn hx hy
      have htk := eqVs_take hn hx hy
      rw [heq, Bool.true_and] at hsp htk
      generalize l[i] = u at *
      generalize l'[i]'(by omega) = v at *
      obtain ⟨us, uz⟩ := u
      obtain ⟨vs, vz⟩ := v
      refine rn_draw (fun w' => Keep [] w w') [] hMix ?_
      have hS : Keep [] w w2.drew := hk2.drew
      generalize w2.drew = w3 at *
      refine dr_pure 0 hT rfl (by decide +kernel) rfl rfl rfl ?_
      refine dr_pure 1 hT rfl (by decide +kernel) rfl rfl rfl ?_
      refine dr_any 2 _ rfl (by decide +kernel) rfl rfl (fun w => val_index i hT rfl rfl rfl rfl rfl hlt w) ?_
      refine dr_val 3 (.agg #[.string us, .int .i64 uz]) rfl (by decide +kernel) rfl rfl (fun w9 hS9 => val_load (vcell (us, uz)) hT rfl rfl rfl (range_keep hr1 hS9 (hF _ hF1) (by simp))) hS ?_
      refine dr_pure 4 hT rfl (by decide +kernel) rfl rfl rfl ?_
      refine dr_pure 5 hT rfl (by decide +kernel) rfl rfl rfl ?_
      refine dr_any 6 _ rfl (by decide +kernel) rfl rfl (fun w => val_index i hT rfl rfl rfl rfl rfl (by omega) w) ?_
      refine dr_val 7 (.agg #[.string vs, .int .i64 vz]) rfl (by decide +kernel) rfl rfl (fun w9 hS9 => val_load (vcell (vs, vz)) hT rfl rfl rfl (range_keep hr2 hS9 (hF' _ hF2) (by simp))) hS ?_
      refine dr_any 8 (.bool (!(eqV (us, uz) (vs, vz)))) rfl (by decide +kernel) rfl rfl (fun w => val_nePair us vs uz vz _ (by decide +kernel) rfl rfl rfl rfl w) ?_
      refine dr_done (by decide +kernel) ?_
      cases hq : eqV (us, uz) (vs, vz) with
      | false =>
        (repeat (first | refine pl_pure hT rfl rfl rfl ?_ | refine pl_nil ?_ | refine rn_seq ?_ | refine rn_plain ?_ | refine rn_block ?_ | refine rn_inBlock ?_ | refine rn_skip ?_ | refine rn_true rfl ?_ | refine rn_false rfl ?_ | refine rn_exit rfl ?_ | refine pl_not rfl rfl ?_))
        refine rn_ret Try.func75 (.inl ⟨_, rfl, rfl⟩) ⟨?_, hS⟩
        rw [hsp, hq]
        rfl
      | true =>
        (repeat (first | refine pl_pure hT rfl rfl rfl ?_ | refine pl_nil ?_ | refine rn_seq ?_ | refine rn_plain ?_ | refine rn_block ?_ | refine rn_inBlock ?_ | refine rn_skip ?_ | refine rn_true rfl ?_ | refine rn_false rfl ?_ | refine rn_exit rfl ?_ | refine pl_not rfl rfl ?_))
        refine pl_num (((i + 1 : Nat) : Int)) rfl rfl rfl rfl rfl (by simp only [ariP]; omega) ?_
        (repeat (first | refine pl_pure hT rfl rfl rfl ?_ | refine pl_nil ?_ | refine rn_seq ?_ | refine rn_plain ?_ | refine rn_block ?_ | refine rn_inBlock ?_ | refine rn_skip ?_ | refine rn_true rfl ?_ | refine rn_false rfl ?_ | refine rn_exit rfl ?_ | refine pl_not rfl rfl ?_))
        refine rn_sub ?_ (ih (l.length - (i + 1)) [(0, .slice (some ⟨b1, q1, none⟩) l.length ca), (1, .slice (some ⟨b2, q2, none⟩) l'.length cb), (12, .int .i64 (l.length : Nat)), (13, .int .i64 ((i + 1 : Nat) : Int))] w3 (by omega) ⟨i + 1, by omega, rfl, rfl, by rw [htk, hq], hS⟩)
        exact ⟨rfl, rfl, rfl, rfl, trivial⟩
    · refine pl_no rfl rfl rfl rfl rfl rfl (by first | (simp only [cmpP]; omega) | (simp [cmpP]; done) | (simp [cmpP]; omega)) ?_
      (repeat (first | refine pl_pure hT rfl rfl rfl ?_ | refine pl_nil ?_ | refine rn_seq ?_ | refine rn_plain ?_ | refine rn_block ?_ | refine rn_inBlock ?_ | refine rn_skip ?_ | refine rn_true rfl ?_ | refine rn_false rfl ?_ | refine rn_exit rfl ?_ | refine pl_not rfl rfl ?_))
      refine rn_ret Try.func75 (.inl ⟨_, rfl, rfl⟩) ⟨?_, hk2⟩
      rw [List.take_of_length_le (by omega), List.take_of_length_le (by omega)] at heq
      rw [heq]
  · refine pl_yes rfl rfl rfl rfl rfl (by first | (simp only [cmpP]; omega) | (simp [cmpP]; done) | (simp [cmpP]; omega)) ?_
    (repeat (first | refine pl_pure hT rfl rfl rfl ?_ | refine pl_nil ?_ | refine rn_seq ?_ | refine rn_plain ?_ | refine rn_block ?_ | refine rn_inBlock ?_ | refine rn_skip ?_ | refine rn_true rfl ?_ | refine rn_false rfl ?_ | refine rn_exit rfl ?_ | refine pl_not rfl rfl ?_))
    refine rn_ret Try.func75 (.inl ⟨_, rfl, rfl⟩) ⟨?_, Keep.refl _ _⟩
    cases he : eqVs l l' with
    | false => rfl
    | true => exact absurd (eqVs_len he) hn

theorem built_pairsE (m : Nat) : Try.prog.built tPE [(1, .map (some m))] = some [Value.slice none 0 0, .map (some m)].toArray := by kernel_rfl
theorem built_pairsS (m : Nat) : Try.prog.built tPS [(1, .map (some m))] = some [Value.slice none 0 0, .map (some m)].toArray := by kernel_rfl

theorem same_ret {Fa F : Nat → Prop} {w : World} {va ba y : Value} {g : Nat} {ts : List AS} {vs vs' : List VarT} {body' : List ST} (hva : VarsV Fa w va vs) (hFa : In Fa w) (hba : AStmtsV w ba g ts) (hc : ∀ b, hit g b ts.length + sSs b ts ≤ 1) (hcx : ∀ b, xSs b ts ≤ 1) (hsz : szSs (erSs ts) ≤ 1000) (hl : vs.length ≤ 1000)
    (hp : ProgV F w y vs' body') (hF : In F w) :
    Ret Try.prog 41 [.agg #[va, ba], y] w fun r w' => r = .bool (eqP vs (erSs ts) vs' body') ∧ Keep [] w w' := by
  obtain ⟨vb, bb, rfl, hvb, hbb⟩ := hp
  obtain ⟨a1, c1, rfl⟩ := hva.form
  obtain ⟨a2, c2, rfl⟩ := hba.form
  obtain ⟨a3, c3, rfl⟩ := hvb.form
  obtain ⟨a4, c4, rfl⟩ := hbb.form
  refine ret_of 35 Try.func41 rfl rfl (by simp) ?_
  (repeat (first | refine pl_pure hT rfl rfl rfl ?_ | refine pl_nil ?_ | refine rn_seq ?_ | refine rn_plain ?_ | refine rn_block ?_ | refine rn_inBlock ?_ | refine rn_skip ?_ | refine rn_true rfl ?_ | refine rn_false rfl ?_ | refine rn_exit rfl ?_ | refine pl_not rfl rfl ?_))
  refine pl_op rfl rfl (opTo_boxN [.slice a1 vs.length c1, .slice a2 ts.length c2] rfl rfl rfl ?_)
  intro w1 b1 hb1 hs1 hk1 hB1
  refine pl_op rfl rfl (opTo_boxN [.slice a3 vs'.length c3, .slice a4 body'.length c4] rfl rfl rfl ?_)
  intro w2 b2 hb2 hs2 hk2 hB2
  have hB12 := hk2.blk hB1 (by simp)
  (repeat (first | refine pl_pure hT rfl rfl rfl ?_ | refine pl_nil ?_ | refine rn_seq ?_ | refine rn_plain ?_ | refine rn_block ?_ | refine rn_inBlock ?_ | refine rn_skip ?_ | refine rn_true rfl ?_ | refine rn_false rfl ?_ | refine rn_exit rfl ?_ | refine pl_not rfl rfl ?_))
  refine pl_op rfl rfl (opTo_makeMap rfl ?_)
  intro w3 ms hms hs3 hk3 hm3
  refine pl_val _ rfl rfl (val_build _ rfl rfl (built_pairsS ms) w3) ?_
  refine pl_op rfl rfl (opTo_allocN [.slice none 0 0, .map none] rfl (by kernel_rfl) ?_)
  intro w4 xs hxs hs4 hk4 hX4
  refine pl_op rfl rfl (opTo_storeN _ rfl rfl rfl rfl (by kernel_rfl) hX4 (by simp) (by intro u hu; simp at hu; rcases hu with rfl | rfl <;> rfl) ?_)
  intro w5 hs5 hk5 hX5
  rw [splice_whole (by rfl)] at hX5
  (repeat (first | refine pl_pure hT rfl rfl rfl ?_ | refine pl_nil ?_ | refine rn_seq ?_ | refine rn_plain ?_ | refine rn_block ?_ | refine rn_inBlock ?_ | refine rn_skip ?_ | refine rn_true rfl ?_ | refine rn_false rfl ?_ | refine rn_exit rfl ?_ | refine pl_not rfl rfl ?_))
  refine pl_op rfl rfl (opTo_makeMap rfl ?_)
  intro w6 me hme hs6 hk6 hm6
  refine pl_val _ rfl rfl (val_build _ rfl rfl (built_pairsE me) w6) ?_
  refine pl_op rfl rfl (opTo_allocN [.slice none 0 0, .map none] rfl (by kernel_rfl) ?_)
  intro w7 xe hxe hs7 hk7 hX7
  refine pl_op rfl rfl (opTo_storeN _ rfl rfl rfl rfl (by kernel_rfl) hX7 (by simp) (by intro u hu; simp at hu; rcases hu with rfl | rfl <;> rfl) ?_)
  intro w8 hs8 hk8 hX8
  rw [splice_whole (by rfl)] at hX8
  (repeat (first | refine pl_pure hT rfl rfl rfl ?_ | refine pl_nil ?_ | refine rn_seq ?_ | refine rn_plain ?_ | refine rn_block ?_ | refine rn_inBlock ?_ | refine rn_skip ?_ | refine rn_true rfl ?_ | refine rn_false rfl ?_ | refine rn_exit rfl ?_ | refine pl_not rfl rfl ?_))
  refine pl_op rfl rfl (opTo_allocN [.nilFunc] rfl (by kernel_rfl) ?_)
  intro w9 bx hbx hs9 hk9 hF9
  refine pl_op rfl rfl (opTo_storeN [cl1 xe] rfl rfl rfl rfl (by kernel_rfl) hF9 (by simp) (by simp; rfl) ?_)
  intro w10 hs10 hk10 hF10
  rw [splice_whole (by rfl)] at hF10
  have hw2 : Keep [] w w2 := hk1.tr hk2
  have k35 : Keep [] w3 w5 := hk4.trB hk5 (by omega)
  have k68 : Keep [] w6 w8 := hk7.trB hk8 (by omega)
  have k8 : Keep [] w8 w10 := hk9.trB hk10 (by omega)
  have k5a : Keep [] w5 w10 := (hk6.tr k68).tr k8
  have k3a : Keep [] w3 w10 := k35.tr k5a
  have k2a : Keep [] w2 w10 := hk3.tr k3a
  have kwa : Keep [] w w10 := hw2.tr k2a
  have hB1a := k2a.blk hB12 (by simp)
  have hB2a := k2a.blk hB2 (by simp)
  have hBoth : Both F w w10 xs ms xe me [] [] [] [] := by
    refine ⟨kwa, ⟨by have := hw2.size; omega, by have := hw2.size; omega, ⟨_, k5a.blk hX5 (by simp), Own.nil _ _ _ _⟩, ⟨_, _, (k3a.block ms (by omega) (by simp)).trans hm3, by intro x hx; simp at hx⟩⟩,
      ⟨by have := hw2.size; omega, by have := hw2.size; omega, ⟨_, k8.blk hX8 (by simp), Own.nil _ _ _ _⟩, ⟨_, _, ((k68.tr k8).block me (by omega) (by simp)).trans hm6, by intro x hx; simp at hx⟩⟩, by omega, by simp, by simp, by simp, by simp⟩
  clear hk1 hk2 hk3 hk4 hk5 hk6 hk7 hk8 hk9 hk10 k35 k68 k8 k5a k3a k2a hX4 hX5 hX7 hX8 hm3 hm6 hB1 hB12 hB2 hF9
  (repeat (first | refine pl_pure hT rfl rfl rfl ?_ | refine pl_nil ?_ | refine rn_seq ?_ | refine rn_plain ?_ | refine rn_block ?_ | refine rn_inBlock ?_ | refine rn_skip ?_ | refine rn_true rfl ?_ | refine rn_false rfl ?_ | refine rn_exit rfl ?_ | refine pl_not rfl rfl ?_ | refine pl_val _ rfl rfl (val_load1 hT rfl rfl rfl (Blk.cell (by assumption) (by rfl))) ?_ | refine pl_yes rfl rfl rfl rfl rfl (by first | (simp only [cmpP]; omega) | (simp [cmpP]; done) | (simp [cmpP]; omega)) ?_ | refine pl_no rfl rfl rfl rfl rfl rfl (by first | (simp only [cmpP]; omega) | (simp [cmpP]; done) | (simp [cmpP]; omega)) ?_))
  refine pl_op rfl rfl (opTo_call rfl rfl rfl rfl (by decide +kernel) ((equalV_ret (hva.keep kwa hFa.stays) (hvb.keep kwa hF.stays) (hFa.keep kwa) (hF.keep kwa) hl).mono ?_))
  rintro v11 w11 ⟨rfl, hk11⟩
  have hB11 := hBoth.keep hk11
  have hb1 := hk11.blk hB1a (by simp)
  have hb2 := hk11.blk hB2a (by simp)
  have hf11 := hk11.blk hF10 (by simp)
  unfold eqP
  cases hq : eqVs vs vs' with
  | false =>
    (repeat (first | refine pl_pure hT rfl rfl rfl ?_ | refine pl_nil ?_ | refine rn_seq ?_ | refine rn_plain ?_ | refine rn_block ?_ | refine rn_inBlock ?_ | refine rn_skip ?_ | refine rn_true rfl ?_ | refine rn_false rfl ?_ | refine rn_exit rfl ?_ | refine pl_not rfl rfl ?_))
    exact rn_ret Try.func41 (.inl ⟨_, rfl, rfl⟩) ⟨rfl, kwa.tr hk11⟩
  | true =>
    rw [Bool.true_and]
    (repeat (first | refine pl_pure hT rfl rfl rfl ?_ | refine pl_nil ?_ | refine rn_seq ?_ | refine rn_plain ?_ | refine rn_block ?_ | refine rn_inBlock ?_ | refine rn_skip ?_ | refine rn_true rfl ?_ | refine rn_false rfl ?_ | refine rn_exit rfl ?_ | refine pl_not rfl rfl ?_ | refine pl_val _ rfl rfl (val_load1 hT rfl rfl rfl (Blk.cell (by assumption) (by rfl))) ?_ | refine pl_yes rfl rfl rfl rfl rfl (by first | (simp only [cmpP]; omega) | (simp [cmpP]; done) | (simp [cmpP]; omega)) ?_ | refine pl_no rfl rfl rfl rfl rfl rfl (by first | (simp only [cmpP]; omega) | (simp [cmpP]; done) | (simp [cmpP]; omega)) ?_))
    refine pl_op rfl rfl (opTo_call rfl rfl rfl rfl (by decide +kernel) ((addS_out hB11 hba hbb (fun b => by have := hc b; simpa using this) (by simp [mE, mS])).mono ?_))
    rintro r w12 ⟨res, rfl, ht12, hf12, htr12⟩
    have hk12 := Tw.keep (w0 := w) ht12 hB11.kp
    cases res with
    | false =>
      (repeat (first | refine pl_pure hT rfl rfl rfl ?_ | refine pl_nil ?_ | refine rn_seq ?_ | refine rn_plain ?_ | refine rn_block ?_ | refine rn_inBlock ?_ | refine rn_skip ?_ | refine rn_true rfl ?_ | refine rn_false rfl ?_ | refine rn_exit rfl ?_ | refine pl_not rfl rfl ?_))
      exact rn_ret Try.func41 (.inl ⟨_, rfl, rfl⟩) ⟨by rw [hf12 rfl], hk12⟩
    | true =>
      obtain ⟨Ms2, Me2, Ns2, Ne2, hB12, hg2, hcx2, hcs2, hz2, _⟩ := htr12 rfl
      simp only [List.nil_append, List.count_nil, Nat.zero_add] at hB12 hcx2 hcs2
      have hf12' := hB11.stays ht12 hf11 (by decide) (by decide) (by decide)
      (repeat (first | refine pl_pure hT rfl rfl rfl ?_ | refine pl_nil ?_ | refine rn_seq ?_ | refine rn_plain ?_ | refine rn_block ?_ | refine rn_inBlock ?_ | refine rn_skip ?_ | refine rn_true rfl ?_ | refine rn_false rfl ?_ | refine rn_exit rfl ?_ | refine pl_not rfl rfl ?_))
      refine pl_op rfl rfl (opTo_call rfl rfl rfl rfl (by decide +kernel) ((allS_ret hB12 hf12' hF (fun b => by have := hcx2 b; have := hcx b; omega) (fun b => by have := hcs2 b; have := hc b; omega) (by omega)).mono ?_))
      rintro r w13 ⟨res, rfl, ht13, hf13, htr13⟩
      have hk13 := Tw.keep (w0 := w) ht13 hB12.kp
      cases res with
      | false =>
        (repeat (first | refine pl_pure hT rfl rfl rfl ?_ | refine pl_nil ?_ | refine rn_seq ?_ | refine rn_plain ?_ | refine rn_block ?_ | refine rn_inBlock ?_ | refine rn_skip ?_ | refine rn_true rfl ?_ | refine rn_false rfl ?_ | refine rn_exit rfl ?_ | refine pl_not rfl rfl ?_))
        exact rn_ret Try.func41 (.inl ⟨_, rfl, rfl⟩) ⟨by rw [hg2, hf13 rfl], hk13⟩
      | true =>
        obtain ⟨Ms3, Me3, Ps3, Pe3, hB13, hn3, _, hT3, hc3, hcs3, hz3⟩ := htr13 rfl
        subst hn3
        have hf13' := hB12.stays ht13 hf12' (by decide) (by decide) (by decide)
        (repeat (first | refine pl_pure hT rfl rfl rfl ?_ | refine pl_nil ?_ | refine rn_seq ?_ | refine rn_plain ?_ | refine rn_block ?_ | refine rn_inBlock ?_ | refine rn_skip ?_ | refine rn_true rfl ?_ | refine rn_false rfl ?_ | refine rn_exit rfl ?_ | refine pl_not rfl rfl ?_))
        refine pl_val _ rfl rfl (val_load1 hT rfl rfl rfl (hf13'.cell rfl)) ?_
        refine pl_op rfl rfl (opTo_call rfl rfl rfl rfl (by decide +kernel) ((allE_ret hB13 hF hc3 hcs3 (by omega)).mono ?_))
        rintro r w14 ⟨res, rfl, ht14, hf14, htr14⟩
        have hk14 := Tw.keep (w0 := w) ht14 hB13.kp
        (repeat (first | refine pl_pure hT rfl rfl rfl ?_ | refine pl_nil ?_ | refine rn_seq ?_ | refine rn_plain ?_ | refine rn_block ?_ | refine rn_inBlock ?_ | refine rn_skip ?_ | refine rn_true rfl ?_ | refine rn_false rfl ?_ | refine rn_exit rfl ?_ | refine pl_not rfl rfl ?_))
        refine rn_ret Try.func41 (.inl ⟨_, rfl, rfl⟩) ⟨?_, hk14⟩
        rw [hg2, hT3]
        cases res with
        | false => rw [hf14 rfl]
        | true =>
          obtain ⟨_, _, Ps4, Pe4, _, hn4, hps4, hT4, _⟩ := htr14 rfl
          rw [hT4, hn4, hps4 rfl]
          rfl
end E
end Go.Proofs.Ytpbdjpoohpocfab
