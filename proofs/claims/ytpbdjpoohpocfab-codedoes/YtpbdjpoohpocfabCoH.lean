/- Contracts of the document's Own: a program in memory of its own, each row in a block of its own. -/
import Derived.Test.YtpbdjpoohpocfabCoG
import Derived.Test.YtpbdjpoohpocfabGrowO
namespace Go.Proofs.Ytpbdjpoohpocfab
set_option maxRecDepth 20000
set_option maxHeartbeats 4000000
namespace E
open Go.Proofs

theorem built_expr3 (a b c : Int) : Try.prog.built 117 [(0, .int .i64 a), (1, .int .i64 b), (2, .int .i64 c)] = some [Value.int .i64 a, .int .i64 b, .int .i64 c, .slice none 0 0].toArray := by kernel_rfl

theorem erEs_take_succ {ts : List AE} {l : List ET} {t' : AE} {i : Nat} (h : erEs ts = l.take i) (hlt : i < l.length) (ht : erE t' = l[i]) : erEs (ts ++ [t']) = l.take (i + 1) := by
  rw [erEs_map] at h ⊢
  rw [List.take_succ_eq_append_getElem hlt, List.map_append, h, ← ht]
  rfl
theorem erSs_take_succ {ts : List AS} {l : List ST} {t' : AS} {i : Nat} (h : erSs ts = l.take i) (hlt : i < l.length) (ht : erS t' = l[i]) : erSs (ts ++ [t']) = l.take (i + 1) := by
  rw [erSs_map] at h ⊢
  rw [List.take_succ_eq_append_getElem hlt, List.map_append, h, ← ht]
  rfl

theorem ownExpr_ret : ∀ (k : Nat) (t : ET), szE t ≤ k → szE t ≤ 1000 → ∀ {F : Nat → Prop} {w : World} {cs : List Value}, ExprV F w cs t → In F w →
    Ret Try.prog 89 [.agg cs.toArray] w fun r w' => (∃ t' cs', r = .agg cs'.toArray ∧ AExprV w' cs' t' ∧ erE t' = t ∧ Cnts (fun b => cE b t') w.heap.size w'.heap.size) ∧ Keep [] w w' := by
  intro k
  induction k with
  | zero => intro t ht; have := szE_pos t; omega
  | succ k ih =>
    intro t ht ht3 F w cs h hF
    obtain ⟨op, v, n, l⟩ := t
    obtain ⟨lv, rfl, hl⟩ := h.inv
    obtain ⟨a, cap, rfl⟩ := hl.form
    simp only [szE] at ht ht3
    have hlen := szEs_len l
    refine ret_of 31 Try.func89 rfl rfl (by simp) ?_
    (repeat (first | refine pl_pure hT rfl rfl rfl ?_ | refine pl_nil ?_ | refine rn_seq ?_ | refine rn_plain ?_ | refine rn_block ?_ | refine rn_inBlock ?_ | refine rn_skip ?_ | refine rn_true rfl ?_ | refine rn_false rfl ?_ | refine rn_exit rfl ?_ | refine pl_not rfl rfl ?_))
    refine pl_op rfl rfl (opTo_boxN [.int .i64 op, .int .i64 v, .int .i64 n, .slice a l.length cap] rfl rfl rfl ?_)
    intro w1 b1 hb1 hs1 hk1 hB1
    refine pl_op rfl rfl (opTo_allocN _ rfl zero_expr ?_)
    intro w2 b2 hb2 hs2 hk2 hB2
    have hB12 := hk2.blk hB1 (by simp)
    (repeat (first | refine pl_pure hT rfl rfl rfl ?_ | refine pl_nil ?_ | refine rn_seq ?_ | refine rn_plain ?_ | refine rn_block ?_ | refine rn_inBlock ?_ | refine rn_skip ?_ | refine rn_true rfl ?_ | refine rn_false rfl ?_ | refine rn_exit rfl ?_ | refine pl_not rfl rfl ?_ | refine pl_val _ rfl rfl (val_load1 hT rfl rfl rfl (Blk.cell (by assumption) (by rfl))) ?_ | refine pl_yes rfl rfl rfl rfl rfl (by first | (simp only [cmpP]; omega) | (simp [cmpP]; done) | (simp [cmpP]; omega)) ?_ | refine pl_no rfl rfl rfl rfl rfl rfl (by first | (simp only [cmpP]; omega) | (simp [cmpP]; done) | (simp [cmpP]; omega)) ?_))
    refine pl_val _ rfl rfl (val_build _ rfl rfl (built_expr3 op v n) w2) ?_
    refine pl_op rfl rfl (opTo_allocN _ rfl zero_expr ?_)
    intro w3 b3 hb3 hs3 hk3 hB3
    refine pl_op rfl rfl (opTo_storeN _ rfl rfl rfl rfl (by kernel_rfl) hB3 (by simp [exprZ]) (by intro u hu; simp at hu; rcases hu with rfl | rfl | rfl | rfl <;> rfl) ?_)
    intro w4 hs4 hk4 hB34
    rw [splice_whole (by rfl)] at hB34
    have hk24 : Keep [] w2 w4 := hk3.trB hk4 (by omega)
    have hB14 := hk24.blk hB12 (by simp)
    have hB24 := hk24.blk hB2 (by simp)
    have hkw4 : Keep [] w w4 := (hk1.tr hk2).tr hk24
    clear hk1 hk2 hk3 hk4 hk24 hB1 hB2 hB3 hB12
    (repeat (first | refine pl_pure hT rfl rfl rfl ?_ | refine pl_nil ?_ | refine rn_seq ?_ | refine rn_plain ?_ | refine rn_block ?_ | refine rn_inBlock ?_ | refine rn_skip ?_ | refine rn_true rfl ?_ | refine rn_false rfl ?_ | refine rn_exit rfl ?_ | refine pl_not rfl rfl ?_))
    refine rn_ind (fun m σ w' => ∃ (i : Nat) (rv : Value) (ccs : List (List Value)) (ts : List AE), i ≤ l.length ∧ m = l.length - i ∧ σ = [(1, .pointer (some ⟨b1, 0, none⟩)), (2, .pointer (some ⟨b2, 0, none⟩)), (3, .pointer (some ⟨b3, 0, none⟩)), (4, .int .i64 (i : Nat))] ∧
      Blk w' b1 [.int .i64 op, .int .i64 v, .int .i64 n, .slice a l.length cap] 117 ∧ Blk w' b2 exprZ 117 ∧ Blk w' b3 [.int .i64 op, .int .i64 v, .int .i64 n, rv] 117 ∧
      GrowE 117 w' (b3 + 1) rv ccs ts ∧ erEs ts = l.take i ∧ Keep [] w w') l.length _ ?_ ⟨0, _, [], [], by omega, by omega, rfl, hB14, hB24, hB34, GrowE.nil _ _ _, rfl, hkw4⟩ ?_
    · exact ⟨rfl, rfl, rfl, rfl, trivial⟩
    clear hB14 hB24 hB34 hkw4
    rintro m σ w5 ih2 ⟨i, rv, ccs, ts, hi, rfl, rfl, hB1, hB2, hB3, hG, her, hkw⟩
    have hti : ts.length = i := by
      have := congrArg List.length her
      rw [erEs_length, List.length_take] at this
      omega
    (repeat (first | refine pl_pure hT rfl rfl rfl ?_ | refine pl_nil ?_ | refine rn_seq ?_ | refine rn_plain ?_ | refine rn_block ?_ | refine rn_inBlock ?_ | refine rn_skip ?_ | refine rn_true rfl ?_ | refine rn_false rfl ?_ | refine rn_exit rfl ?_ | refine pl_not rfl rfl ?_))
    refine pl_val _ rfl rfl (val_load1 hT rfl rfl rfl (hB1.cell rfl)) ?_
    (repeat (first | refine pl_pure hT rfl rfl rfl ?_ | refine pl_nil ?_ | refine rn_seq ?_ | refine rn_plain ?_ | refine rn_block ?_ | refine rn_inBlock ?_ | refine rn_skip ?_ | refine rn_true rfl ?_ | refine rn_false rfl ?_ | refine rn_exit rfl ?_ | refine pl_not rfl rfl ?_))
    by_cases hlt : i < l.length
    · refine pl_yes rfl rfl rfl rfl rfl (by first | (simp only [cmpP]; omega) | (simp [cmpP]; done) | (simp [cmpP]; omega)) ?_
      (repeat (first | refine pl_pure hT rfl rfl rfl ?_ | refine pl_nil ?_ | refine rn_seq ?_ | refine rn_plain ?_ | refine rn_block ?_ | refine rn_inBlock ?_ | refine rn_skip ?_ | refine rn_true rfl ?_ | refine rn_false rfl ?_ | refine rn_exit rfl ?_ | refine pl_not rfl rfl ?_))
      have hget : l[i]? = some l[i] := List.getElem?_eq_getElem hlt
      have hsz := szEs_at hget
      obtain ⟨bb, q, cap', ci, hv, _, hra, hci⟩ := (hl.keep hkw hF.stays).at hget
      cases hv
      have hF5 := hF.keep hkw
      have hbb : bb < w5.heap.size := by
        have h0 : ∃ u, ci[0]? = some u := ⟨ci[0]'(by rw [hci.length]; decide), List.getElem?_eq_getElem _⟩
        obtain ⟨u, hu⟩ := h0
        exact World.block_lt_of_cell? _ _ (hra 0 u hu)
      refine rn_draw (fun w' => Keep [] w5 w') [9, 11] hMix ?_
      have hS : Keep [] w5 w5.drew := (Keep.refl _ _).drew
      generalize w5.drew = w6 at *
      refine dr_pure 0 hT rfl (by decide +kernel) rfl rfl rfl ?_
      refine dr_val 1 rv rfl (by decide +kernel) rfl rfl (fun w9 hS9 => val_load1 hT rfl rfl rfl ((hS9.blk hB3 (by simp)).cell rfl)) hS ?_
      refine dr_pure 2 hT rfl (by decide +kernel) rfl rfl rfl ?_
      refine dr_val 3 _ rfl (by decide +kernel) rfl rfl (fun w9 hS9 => val_load1 hT rfl rfl rfl ((hS9.blk hB1 (by simp)).cell rfl)) hS ?_
      refine dr_pure 4 hT rfl (by decide +kernel) rfl rfl rfl ?_
      refine dr_any 5 _ rfl (by decide +kernel) rfl rfl (fun w => val_index i hT rfl rfl rfl rfl rfl hlt w) ?_
      refine dr_val 6 (.agg ci.toArray) rfl (by decide +kernel) rfl rfl (fun w9 hS9 => val_load ci hT rfl rfl (by rw [hci.length]; rfl) (range_keep hra hS9 hbb (by simp))) hS ?_
      refine dr_op 7 rfl (by decide +kernel) rfl rfl (opTo_call rfl rfl rfl rfl (by decide +kernel) ((ih l[i] (by omega) (by omega) (hci.keep hS hF5.stays) (hF5.keep hS)).mono ?_))
      rintro v7 w7 ⟨⟨t', cs', rfl, hA, he, hC⟩, hk7⟩
      have hS7 := hS.tr hk7
      refine ⟨fun _ => hS7, ?_⟩
      obtain ⟨c0, c1, c2, c3, rfl⟩ := list4 hA.length
      refine dr_op 8 rfl (by decide +kernel) rfl rfl (opTo_sliceN _ _ rfl rfl (slice_expr c0 c1 c2 c3) ?_)
      intro w8 x8 hx8 hs8 hk8 hX8
      have hS8 := hS7.tr hk8
      refine ⟨fun _ => hS8, ?_⟩
      have hG6 := hG.keep hS
      have hG8 := hG.keep hS8
      have hk68 := hk7.tr hk8
      have hci3 := hG.len
      refine dr_op 9 rfl (by decide +kernel) rfl rfl (opTo_app (b3 + 1) 117 4 48 ccs.flatten [c0, c1, c2, c3] rfl rfl rfl (by decide +kernel) hG8.own (hX8.range (by rfl)) rfl hA.plain.one (by decide) (by unfold maxLen; omega) (by omega) (by have := hB3.lt; have := hS8.size; omega) ?_)
      intro g9 cap9 w9 ho9 hor9
      refine ⟨fun h => absurd h (by simp), ?_⟩
      have hG9 := hG6.app (t := t') (hA.keep hk8) (hC.mono (Nat.le_refl _) hk8.size) hk68 (by have := hB3.lt; have := hS.size; omega) ho9 hor9
      have keepLow : ∀ (x : Nat) (L : List Value) (e : TypeId), x ≤ b3 → Blk w5 x L e → Blk w9 x L e := fun x L e hx hB => by
        have h8 := hS8.blk hB (by simp)
        rcases hor9 with ⟨h2, _, h3⟩ | ⟨_, h3, _⟩
        · exact h3.blk h8 (by have := (hG8.own.lt g9 h2).1; simp; omega)
        · exact h3.blk h8 (by simp)
      have hkw9 : Keep [] w w9 := by
        rcases hor9 with ⟨h2, _, h3⟩ | ⟨_, h3, _⟩
        · exact (hkw.tr hS8).trB h3 (by have := (hG8.own.lt g9 h2).1; omega)
        · exact (hkw.tr hS8).tr h3
      have hB1' := keepLow b1 _ _ (by omega) hB1
      have hB2' := keepLow b2 _ _ (by omega) hB2
      have hB3' := keepLow b3 _ _ (by omega) hB3
      refine dr_any 10 _ rfl (by decide +kernel) rfl rfl (fun w => val_pure hT rfl w) ?_
      refine dr_op 11 rfl (by decide +kernel) rfl rfl (opTo_storeN [.slice (some ⟨g9, 0, none⟩) (ccs.length + 1) cap9] rfl rfl rfl rfl (by kernel_rfl) hB3' (by simp) (by simp; rfl) ?_)
      intro w10 hs10 hk10 hB310
      refine ⟨fun h => absurd h (by simp), ?_⟩
      refine dr_done (by decide +kernel) ?_
      (repeat (first | refine pl_pure hT rfl rfl rfl ?_ | refine pl_nil ?_ | refine rn_seq ?_ | refine rn_plain ?_ | refine rn_block ?_ | refine rn_inBlock ?_ | refine rn_skip ?_ | refine rn_true rfl ?_ | refine rn_false rfl ?_ | refine rn_exit rfl ?_ | refine pl_not rfl rfl ?_))
      refine pl_num (((i + 1 : Nat) : Int)) rfl rfl rfl rfl rfl (by simp only [ariP]; omega) ?_
      (repeat (first | refine pl_pure hT rfl rfl rfl ?_ | refine pl_nil ?_ | refine rn_seq ?_ | refine rn_plain ?_ | refine rn_block ?_ | refine rn_inBlock ?_ | refine rn_skip ?_ | refine rn_true rfl ?_ | refine rn_false rfl ?_ | refine rn_exit rfl ?_ | refine pl_not rfl rfl ?_))
      refine rn_sub ?_ (ih2 (l.length - (i + 1)) [(1, .pointer (some ⟨b1, 0, none⟩)), (2, .pointer (some ⟨b2, 0, none⟩)), (3, .pointer (some ⟨b3, 0, none⟩)), (4, .int .i64 ((i + 1 : Nat) : Int))] w10 (by omega)
        ⟨i + 1, _, ccs ++ [[c0, c1, c2, c3]], ts ++ [t'], by omega, rfl, rfl, hk10.blk hB1' (by simp; omega), hk10.blk hB2' (by simp; omega), hB310, hG9.other hk10 (by omega), erEs_take_succ her hlt he, hkw9.trB hk10 (by omega)⟩)
      exact ⟨rfl, rfl, rfl, rfl, trivial⟩
    · refine pl_no rfl rfl rfl rfl rfl rfl (by first | (simp only [cmpP]; omega) | (simp [cmpP]; done) | (simp [cmpP]; omega)) ?_
      (repeat (first | refine pl_pure hT rfl rfl rfl ?_ | refine pl_nil ?_ | refine rn_seq ?_ | refine rn_plain ?_ | refine rn_block ?_ | refine rn_inBlock ?_ | refine rn_skip ?_ | refine rn_true rfl ?_ | refine rn_false rfl ?_ | refine rn_exit rfl ?_ | refine pl_not rfl rfl ?_))
      obtain ⟨g, hA, hC⟩ := hG.done
      rw [List.take_of_length_le (by omega)] at her
      refine pl_val _ rfl rfl (val_load [.int .i64 op, .int .i64 v, .int .i64 n, rv] hT rfl rfl rfl (hB3.range (by rfl))) ?_
      have hAE : AExprV w5 [.int .i64 op, .int .i64 v, .int .i64 n, rv] (.mk op v n g ts) := AExprV.of hA
      have hCE : Cnts (fun b => cE b (.mk op v n g ts)) (b3 + 1) w5.heap.size := hC.congr fun b => by simp only [cE]
      refine pl_op rfl rfl (opTo_storeN _ rfl rfl rfl rfl (by kernel_rfl) hB2 (by simp [exprZ]) hAE.plain.one ?_)
      intro w6 hs6 hk6 hB26
      rw [splice_whole (by rfl)] at hB26
      (repeat (first | refine pl_pure hT rfl rfl rfl ?_ | refine pl_nil ?_ | refine rn_seq ?_ | refine rn_plain ?_ | refine rn_block ?_ | refine rn_inBlock ?_ | refine rn_skip ?_ | refine rn_true rfl ?_ | refine rn_false rfl ?_ | refine rn_exit rfl ?_ | refine pl_not rfl rfl ?_))
      refine rn_ret Try.func89 (.inr (.inr (.inl ⟨_, _, _, rfl, rfl, blk_loadVar hT hB26 rfl⟩))) ⟨⟨_, _, rfl, hAE.keepBut hk6 (hCE.out b2 (by omega)), by simp only [erE, her], hCE.mono (by omega) (by omega)⟩, hkw.trB hk6 (by omega)⟩
end E
end Go.Proofs.Ytpbdjpoohpocfab
