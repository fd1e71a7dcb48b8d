/- Contracts of Check's closure, exprsOf, lookExprs, lookStmts. -/
import Derived.Test.YtpbdjpoohpocfabCoC2
namespace Go.Proofs.Ytpbdjpoohpocfab
set_option maxRecDepth 20000
set_option maxHeartbeats 4000000
namespace E
open Go.Proofs

theorem app_keep {w0 w w' : World} {e size ln m g : Nat} {v : Value} {xs : List Value} (hk : Keep [] w0 w) (ho : Own w w0.heap.size e size v ln xs)
    (hor : (v.ownBlock = some g ∧ ln + m ≤ capOf v ∧ Keep [g] w w') ∨ (g = w.heap.size ∧ Keep [] w w' ∧ w'.heap.size = w.heap.size + 1)) : Keep [] w0 w' := by
  rcases hor with ⟨h1, _, h2⟩ | ⟨_, h2, _⟩
  · exact hk.trB h2 (ho.lt g h1).1
  · exact hk.tr h2

theorem slice_expr (a b c d : Value) : sliceCells Try.prog 115 1 [(0, .agg #[a, b, c, d])] = some (117, #[a, b, c, d]) := by kernel_rfl

theorem exprsOf_ret {F : Nat → Prop} {w : World} {op v : Int} {e f : ET} {lb lo : List ST} {ce cf : List Value} {bv ov : Value} (hF : In F w) (he : ExprV F w ce e) (hf : ExprV F w cf f) (hb : StmtsV F w bv lb) (ho : StmtsV F w ov lo) :
    Ret Try.prog 94 [.agg (scells op v ce cf bv ov).toArray] w fun r w' => (∃ F' : Nat → Prop, ExprsV F' w' r (els op e f) ∧ ∀ k, F' k → k < w'.heap.size ∧ (F k ∨ w.heap.size ≤ k)) ∧ Keep [] w w' := by
  obtain ⟨e0, e1, e2, e3, rfl⟩ := list4 he.length
  obtain ⟨f0, f1, f2, f3, rfl⟩ := list4 hf.length
  obtain ⟨ab, capb, rfl⟩ := hb.form
  obtain ⟨ao, capo, rfl⟩ := ho.form
  have oe := he.one
  have of := hf.one
  refine ret_of 31 Try.func94 rfl rfl (by simp) ?_
  (repeat (first | refine pl_pure hT rfl rfl rfl ?_ | refine pl_nil ?_ | refine rn_seq ?_ | refine rn_plain ?_ | refine rn_block ?_ | refine rn_inBlock ?_ | refine rn_skip ?_ | refine rn_true rfl ?_ | refine rn_false rfl ?_ | refine rn_exit rfl ?_ | refine pl_not rfl rfl ?_))
  refine pl_op rfl rfl (opTo_boxN [.int .i64 op, .int .i64 v, e0, e1, e2, e3, f0, f1, f2, f3, .slice ab lb.length capb, .slice ao lo.length capo] rfl rfl rfl ?_)
  intro w1 b hb0 hs1 hk1 hb1
  (repeat (first | refine pl_pure hT rfl rfl rfl ?_ | refine pl_nil ?_ | refine rn_seq ?_ | refine rn_plain ?_ | refine rn_block ?_ | refine rn_inBlock ?_ | refine rn_skip ?_ | refine rn_true rfl ?_ | refine rn_false rfl ?_ | refine rn_exit rfl ?_ | refine pl_not rfl rfl ?_))
  refine pl_val _ rfl rfl (val_load1 hT rfl rfl rfl (hb1.cell rfl)) ?_
  obtain ⟨be, hbe⟩ : ∃ x, x = needE op := ⟨_, rfl⟩
  obtain ⟨bf, hbf⟩ : ∃ x, x = needF op := ⟨_, rfl⟩
  have hR := has_ret op w1
  simp only [hasV, ← hbe, ← hbf] at hR
  refine pl_op rfl rfl (opTo_call rfl rfl rfl rfl (by decide +kernel) (hR.mono ?_))
  rintro v3 w3 ⟨rfl, rfl⟩
  unfold els
  rw [← hbe, ← hbf]
  clear hbe hbf hR
  have hnil : Own w3 w.heap.size 117 4 (.slice none 0 0) ([] : List (List Value)).length ([] : List (List Value)).flatten := Own.nil _ _ _ _
  have fin : ∀ (rv : Value) (w' : World) (ccs : List (List Value)) (l : List ET) (hl : ccs.length = l.length), Own w' w.heap.size 117 4 rv ccs.length ccs.flatten → Keep [] w w' → (∀ i (hi : i < l.length), ExprV F w (ccs.getD i []) (l[i]'hi)) →
      (∃ F' : Nat → Prop, ExprsV F' w' rv l ∧ ∀ k, F' k → k < w'.heap.size ∧ (F k ∨ w.heap.size ≤ k)) ∧ Keep [] w w' := by
    intro rv w' ccs l hl hown hk hc
    refine ⟨⟨_, exprs_of_own (F := F) hown hl fun i hi => (hc i hi).keep hk hF.stays, ?_⟩, hk⟩
    rintro k (h | h)
    · have := hown.lt k h
      exact ⟨this.2, .inr this.1⟩
    · exact ⟨Nat.lt_of_lt_of_le (hF k h) hk.size, .inl h⟩
  cases be with
  | false =>
    cases bf with
    | false =>
      (repeat (first | refine pl_pure hT rfl rfl rfl ?_ | refine pl_nil ?_ | refine rn_seq ?_ | refine rn_plain ?_ | refine rn_block ?_ | refine rn_inBlock ?_ | refine rn_skip ?_ | refine rn_true rfl ?_ | refine rn_false rfl ?_ | refine rn_exit rfl ?_ | refine pl_not rfl rfl ?_))
      exact rn_ret Try.func94 (.inl ⟨_, rfl, rfl⟩) (fin _ _ [] [] rfl hnil hk1 (fun i hi => by simp at hi))
    | true =>
      (repeat (first | refine pl_pure hT rfl rfl rfl ?_ | refine pl_nil ?_ | refine rn_seq ?_ | refine rn_plain ?_ | refine rn_block ?_ | refine rn_inBlock ?_ | refine rn_skip ?_ | refine rn_true rfl ?_ | refine rn_false rfl ?_ | refine rn_exit rfl ?_ | refine pl_not rfl rfl ?_))
      refine pl_val _ rfl rfl (val_load [f0, f1, f2, f3] hT rfl rfl rfl (hb1.range (by rfl))) ?_
      refine pl_op rfl rfl (opTo_sliceN _ _ rfl rfl (slice_expr f0 f1 f2 f3) ?_)
      intro w4 g4 hg4 hs4 hk4 hx4
      have hn4 := hnil.keep hk4 (by simp)
      refine pl_op rfl rfl (opTo_app w.heap.size 117 4 48 [] [f0, f1, f2, f3] rfl rfl rfl (by decide +kernel) hn4 (hx4.range (by rfl)) rfl of (by decide) (by decide) (by decide) (hk1.tr hk4).size ?_)
      intro g5 cap5 w5 ho5 hor5
      have hk5 := app_keep (hk1.tr hk4) hn4 hor5
      (repeat (first | refine pl_pure hT rfl rfl rfl ?_ | refine pl_nil ?_ | refine rn_seq ?_ | refine rn_plain ?_ | refine rn_block ?_ | refine rn_inBlock ?_ | refine rn_skip ?_ | refine rn_true rfl ?_ | refine rn_false rfl ?_ | refine rn_exit rfl ?_ | refine pl_not rfl rfl ?_))
      exact rn_ret Try.func94 (.inl ⟨_, rfl, rfl⟩) (fin _ _ [[f0, f1, f2, f3]] [f] rfl ho5 hk5 (fun i hi => by
        obtain rfl : i = 0 := by simpa using hi
        exact hf))
  | true =>
    (repeat (first | refine pl_pure hT rfl rfl rfl ?_ | refine pl_nil ?_ | refine rn_seq ?_ | refine rn_plain ?_ | refine rn_block ?_ | refine rn_inBlock ?_ | refine rn_skip ?_ | refine rn_true rfl ?_ | refine rn_false rfl ?_ | refine rn_exit rfl ?_ | refine pl_not rfl rfl ?_))
    refine pl_val _ rfl rfl (val_load [e0, e1, e2, e3] hT rfl rfl rfl (hb1.range (by rfl))) ?_
    refine pl_op rfl rfl (opTo_sliceN _ _ rfl rfl (slice_expr e0 e1 e2 e3) ?_)
    intro w4 g4 hg4 hs4 hk4 hx4
    have hn4 := hnil.keep hk4 (by simp)
    have hb4 := hk4.blk hb1 (by simp)
    refine pl_op rfl rfl (opTo_app w.heap.size 117 4 48 [] [e0, e1, e2, e3] rfl rfl rfl (by decide +kernel) hn4 (hx4.range (by rfl)) rfl oe (by decide) (by decide) (by decide) (hk1.tr hk4).size ?_)
    intro g5 cap5 w5 ho5 hor5
    have hk5 := app_keep (hk1.tr hk4) hn4 hor5
    have hb5 : Blk w5 b [.int .i64 op, .int .i64 v, e0, e1, e2, e3, f0, f1, f2, f3, .slice ab lb.length capb, .slice ao lo.length capo] 119 := by
      rcases hor5 with ⟨h, _⟩ | ⟨_, h, _⟩
      · cases h
      · exact h.blk hb4 (by simp)
    cases bf with
    | false =>
      (repeat (first | refine pl_pure hT rfl rfl rfl ?_ | refine pl_nil ?_ | refine rn_seq ?_ | refine rn_plain ?_ | refine rn_block ?_ | refine rn_inBlock ?_ | refine rn_skip ?_ | refine rn_true rfl ?_ | refine rn_false rfl ?_ | refine rn_exit rfl ?_ | refine pl_not rfl rfl ?_))
      exact rn_ret Try.func94 (.inl ⟨_, rfl, rfl⟩) (fin _ _ [[e0, e1, e2, e3]] [e] rfl ho5 hk5 (fun i hi => by
        obtain rfl : i = 0 := by simpa using hi
        exact he))
    | true =>
      (repeat (first | refine pl_pure hT rfl rfl rfl ?_ | refine pl_nil ?_ | refine rn_seq ?_ | refine rn_plain ?_ | refine rn_block ?_ | refine rn_inBlock ?_ | refine rn_skip ?_ | refine rn_true rfl ?_ | refine rn_false rfl ?_ | refine rn_exit rfl ?_ | refine pl_not rfl rfl ?_))
      refine pl_val _ rfl rfl (val_load [f0, f1, f2, f3] hT rfl rfl rfl (hb5.range (by rfl))) ?_
      refine pl_op rfl rfl (opTo_sliceN _ _ rfl rfl (slice_expr f0 f1 f2 f3) ?_)
      intro w6 g6 hg6 hs6 hk6 hx6
      have hn6 := ho5.keep hk6 (by simp)
      refine pl_op rfl rfl (opTo_app w.heap.size 117 4 48 [e0, e1, e2, e3] [f0, f1, f2, f3] rfl rfl rfl (by decide +kernel) hn6 (hx6.range (by rfl)) rfl of (by decide) (by decide) (by decide) (hk5.tr hk6).size ?_)
      intro g7 cap7 w7 ho7 hor7
      have hk7 := app_keep (hk5.tr hk6) hn6 hor7
      (repeat (first | refine pl_pure hT rfl rfl rfl ?_ | refine pl_nil ?_ | refine rn_seq ?_ | refine rn_plain ?_ | refine rn_block ?_ | refine rn_inBlock ?_ | refine rn_skip ?_ | refine rn_true rfl ?_ | refine rn_false rfl ?_ | refine rn_exit rfl ?_ | refine pl_not rfl rfl ?_))
      exact rn_ret Try.func94 (.inl ⟨_, rfl, rfl⟩) (fin _ _ [[e0, e1, e2, e3], [f0, f1, f2, f3]] [e, f] rfl ho7 hk7 (fun i hi => by
        match i, hi with
        | 0, _ => exact he
        | 1, _ => exact hf))

theorem look_ret {w : World} {m pb k nv capv : Nat} {av : Option Addr} {bv : Value} (hm : Blk w m [.int .i64 (k : Nat)] 3) (hp : Blk w pb [.slice av nv capv, bv] 73) (hk : k ≤ 1000) (deep : Int) (kn fi na : Bool) (v : Int) :
    Ret Try.prog 69 [.agg (partL deep kn fi na v).toArray, .pointer (some ⟨m, 0, none⟩), .pointer (some ⟨pb, 0, none⟩)] w fun r w' => r = .int .i64 (lookK nv k deep kn fi na v) ∧ Blk w' m [.int .i64 ((k + 1 : Nat) : Int)] 3 ∧ Keep [m] w w' := by
  refine ret_of 47 Try.func69 rfl rfl (by simp) ?_
  (repeat (first | refine pl_pure hT rfl rfl rfl ?_ | refine pl_nil ?_ | refine rn_seq ?_ | refine rn_plain ?_ | refine rn_block ?_ | refine rn_inBlock ?_ | refine rn_skip ?_ | refine rn_true rfl ?_ | refine rn_false rfl ?_ | refine rn_exit rfl ?_ | refine pl_not rfl rfl ?_))
  refine pl_op rfl rfl (opTo_boxN (partL deep kn fi na v) rfl rfl rfl ?_)
  intro w1 b hb0 hs1 hk1 hb1
  have hm1 := hk1.blk hm (by simp)
  have hp1 := hk1.blk hp (by simp)
  (repeat (first | refine pl_pure hT rfl rfl rfl ?_ | refine pl_nil ?_ | refine rn_seq ?_ | refine rn_plain ?_ | refine rn_block ?_ | refine rn_inBlock ?_ | refine rn_skip ?_ | refine rn_true rfl ?_ | refine rn_false rfl ?_ | refine rn_exit rfl ?_ | refine pl_not rfl rfl ?_))
  refine pl_val _ rfl rfl (val_load1 hT rfl rfl rfl (hm1.cell rfl)) ?_
  refine pl_num (((k + 1 : Nat) : Int)) rfl rfl rfl rfl rfl (by simp only [ariP]; omega) ?_
  refine pl_op rfl rfl (opTo_storeN _ rfl rfl rfl rfl (by kernel_rfl) hm1 (by simp) (by simp; rfl) ?_)
  intro w2 hs2 hk2 hm2
  have hp2 := hk2.blk hp1 (by simp; exact hp1.ne hm1 (by decide))
  have hb2 := hk2.blk hb1 (by simp; exact hb1.ne hm1 (by decide))
  rw [splice_whole (by rfl)] at hm2
  have hkw : Keep [m] w w2 := (Keep.of0 hk1).tr hk2
  have hmem : Blk w2 m [.int .i64 ((k + 1 : Nat) : Int)] 3 ∧ Keep [m] w w2 := ⟨hm2, hkw⟩
  clear hb1 hm1 hp1 hk1 hk2 hm hp
  unfold partL at hb2
  unfold lookK
  by_cases h1 : deep > 12
  · (repeat (first | refine pl_pure hT rfl rfl rfl ?_ | refine pl_nil ?_ | refine rn_seq ?_ | refine rn_plain ?_ | refine rn_block ?_ | refine rn_inBlock ?_ | refine rn_skip ?_ | refine rn_true rfl ?_ | refine rn_false rfl ?_ | refine rn_exit rfl ?_ | refine pl_not rfl rfl ?_ | refine pl_val _ rfl rfl (val_load1 hT rfl rfl rfl (Blk.cell (by assumption) (by rfl))) ?_ | refine pl_yes rfl rfl rfl rfl rfl (by first | (simp only [cmpP]; omega) | (simp [cmpP]; done) | (simp [cmpP]; omega)) ?_ | refine pl_no rfl rfl rfl rfl rfl rfl (by first | (simp only [cmpP]; omega) | (simp [cmpP]; done) | (simp [cmpP]; omega)) ?_))
    exact rn_ret Try.func69 (.inl ⟨_, rfl, rfl⟩) ⟨by rw [if_pos h1], hmem⟩
  rw [if_neg h1]
  by_cases h2 : k + 1 > 150
  · (repeat (first | refine pl_pure hT rfl rfl rfl ?_ | refine pl_nil ?_ | refine rn_seq ?_ | refine rn_plain ?_ | refine rn_block ?_ | refine rn_inBlock ?_ | refine rn_skip ?_ | refine rn_true rfl ?_ | refine rn_false rfl ?_ | refine rn_exit rfl ?_ | refine pl_not rfl rfl ?_ | refine pl_val _ rfl rfl (val_load1 hT rfl rfl rfl (Blk.cell (by assumption) (by rfl))) ?_ | refine pl_yes rfl rfl rfl rfl rfl (by first | (simp only [cmpP]; omega) | (simp [cmpP]; done) | (simp [cmpP]; omega)) ?_ | refine pl_no rfl rfl rfl rfl rfl rfl (by first | (simp only [cmpP]; omega) | (simp [cmpP]; done) | (simp [cmpP]; omega)) ?_))
    exact rn_ret Try.func69 (.inl ⟨_, rfl, rfl⟩) ⟨by rw [if_pos h2], hmem⟩
  rw [if_neg h2]
  cases kn with
  | false =>
    (repeat (first | refine pl_pure hT rfl rfl rfl ?_ | refine pl_nil ?_ | refine rn_seq ?_ | refine rn_plain ?_ | refine rn_block ?_ | refine rn_inBlock ?_ | refine rn_skip ?_ | refine rn_true rfl ?_ | refine rn_false rfl ?_ | refine rn_exit rfl ?_ | refine pl_not rfl rfl ?_ | refine pl_val _ rfl rfl (val_load1 hT rfl rfl rfl (Blk.cell (by assumption) (by rfl))) ?_ | refine pl_yes rfl rfl rfl rfl rfl (by first | (simp only [cmpP]; omega) | (simp [cmpP]; done) | (simp [cmpP]; omega)) ?_ | refine pl_no rfl rfl rfl rfl rfl rfl (by first | (simp only [cmpP]; omega) | (simp [cmpP]; done) | (simp [cmpP]; omega)) ?_))
    exact rn_ret Try.func69 (.inl ⟨_, rfl, rfl⟩) ⟨rfl, hmem⟩
  | true =>
    cases fi with
    | false =>
      (repeat (first | refine pl_pure hT rfl rfl rfl ?_ | refine pl_nil ?_ | refine rn_seq ?_ | refine rn_plain ?_ | refine rn_block ?_ | refine rn_inBlock ?_ | refine rn_skip ?_ | refine rn_true rfl ?_ | refine rn_false rfl ?_ | refine rn_exit rfl ?_ | refine pl_not rfl rfl ?_ | refine pl_val _ rfl rfl (val_load1 hT rfl rfl rfl (Blk.cell (by assumption) (by rfl))) ?_ | refine pl_yes rfl rfl rfl rfl rfl (by first | (simp only [cmpP]; omega) | (simp [cmpP]; done) | (simp [cmpP]; omega)) ?_ | refine pl_no rfl rfl rfl rfl rfl rfl (by first | (simp only [cmpP]; omega) | (simp [cmpP]; done) | (simp [cmpP]; omega)) ?_))
      exact rn_ret Try.func69 (.inl ⟨_, rfl, rfl⟩) ⟨rfl, hmem⟩
    | true =>
      cases na with
      | true =>
        by_cases h3 : v < 0
        · (repeat (first | refine pl_pure hT rfl rfl rfl ?_ | refine pl_nil ?_ | refine rn_seq ?_ | refine rn_plain ?_ | refine rn_block ?_ | refine rn_inBlock ?_ | refine rn_skip ?_ | refine rn_true rfl ?_ | refine rn_false rfl ?_ | refine rn_exit rfl ?_ | refine pl_not rfl rfl ?_ | refine pl_val _ rfl rfl (val_load1 hT rfl rfl rfl (Blk.cell (by assumption) (by rfl))) ?_ | refine pl_yes rfl rfl rfl rfl rfl (by first | (simp only [cmpP]; omega) | (simp [cmpP]; done) | (simp [cmpP]; omega)) ?_ | refine pl_no rfl rfl rfl rfl rfl rfl (by first | (simp only [cmpP]; omega) | (simp [cmpP]; done) | (simp [cmpP]; omega)) ?_))
          exact rn_ret Try.func69 (.inl ⟨_, rfl, rfl⟩) ⟨by simp [varK, h3], hmem⟩
        · by_cases h4 : v ≥ (nv : Int)
          · (repeat (first | refine pl_pure hT rfl rfl rfl ?_ | refine pl_nil ?_ | refine rn_seq ?_ | refine rn_plain ?_ | refine rn_block ?_ | refine rn_inBlock ?_ | refine rn_skip ?_ | refine rn_true rfl ?_ | refine rn_false rfl ?_ | refine rn_exit rfl ?_ | refine pl_not rfl rfl ?_ | refine pl_val _ rfl rfl (val_load1 hT rfl rfl rfl (Blk.cell (by assumption) (by rfl))) ?_ | refine pl_yes rfl rfl rfl rfl rfl (by first | (simp only [cmpP]; omega) | (simp [cmpP]; done) | (simp [cmpP]; omega)) ?_ | refine pl_no rfl rfl rfl rfl rfl rfl (by first | (simp only [cmpP]; omega) | (simp [cmpP]; done) | (simp [cmpP]; omega)) ?_))
            exact rn_ret Try.func69 (.inl ⟨_, rfl, rfl⟩) ⟨by simp [varK, h4], hmem⟩
          · (repeat (first | refine pl_pure hT rfl rfl rfl ?_ | refine pl_nil ?_ | refine rn_seq ?_ | refine rn_plain ?_ | refine rn_block ?_ | refine rn_inBlock ?_ | refine rn_skip ?_ | refine rn_true rfl ?_ | refine rn_false rfl ?_ | refine rn_exit rfl ?_ | refine pl_not rfl rfl ?_ | refine pl_val _ rfl rfl (val_load1 hT rfl rfl rfl (Blk.cell (by assumption) (by rfl))) ?_ | refine pl_yes rfl rfl rfl rfl rfl (by first | (simp only [cmpP]; omega) | (simp [cmpP]; done) | (simp [cmpP]; omega)) ?_ | refine pl_no rfl rfl rfl rfl rfl rfl (by first | (simp only [cmpP]; omega) | (simp [cmpP]; done) | (simp [cmpP]; omega)) ?_))
            exact rn_ret Try.func69 (.inl ⟨_, rfl, rfl⟩) ⟨by simp [varK, h3, h4], hmem⟩
      | false =>
        by_cases h3 : v = 0
        · (repeat (first | refine pl_pure hT rfl rfl rfl ?_ | refine pl_nil ?_ | refine rn_seq ?_ | refine rn_plain ?_ | refine rn_block ?_ | refine rn_inBlock ?_ | refine rn_skip ?_ | refine rn_true rfl ?_ | refine rn_false rfl ?_ | refine rn_exit rfl ?_ | refine pl_not rfl rfl ?_ | refine pl_val _ rfl rfl (val_load1 hT rfl rfl rfl (Blk.cell (by assumption) (by rfl))) ?_ | refine pl_yes rfl rfl rfl rfl rfl (by first | (simp only [cmpP]; omega) | (simp [cmpP]; done) | (simp [cmpP]; omega)) ?_ | refine pl_no rfl rfl rfl rfl rfl rfl (by first | (simp only [cmpP]; omega) | (simp [cmpP]; done) | (simp [cmpP]; omega)) ?_))
          exact rn_ret Try.func69 (.inl ⟨_, rfl, rfl⟩) ⟨by simp [varK, h3], hmem⟩
        · (repeat (first | refine pl_pure hT rfl rfl rfl ?_ | refine pl_nil ?_ | refine rn_seq ?_ | refine rn_plain ?_ | refine rn_block ?_ | refine rn_inBlock ?_ | refine rn_skip ?_ | refine rn_true rfl ?_ | refine rn_false rfl ?_ | refine rn_exit rfl ?_ | refine pl_not rfl rfl ?_ | refine pl_val _ rfl rfl (val_load1 hT rfl rfl rfl (Blk.cell (by assumption) (by rfl))) ?_ | refine pl_yes rfl rfl rfl rfl rfl (by first | (simp only [cmpP]; omega) | (simp [cmpP]; done) | (simp [cmpP]; omega)) ?_ | refine pl_no rfl rfl rfl rfl rfl rfl (by first | (simp only [cmpP]; omega) | (simp [cmpP]; done) | (simp [cmpP]; omega)) ?_))
          exact rn_ret Try.func69 (.inl ⟨_, rfl, rfl⟩) ⟨by simp [varK, h3], hmem⟩
end E
end Go.Proofs.Ytpbdjpoohpocfab
