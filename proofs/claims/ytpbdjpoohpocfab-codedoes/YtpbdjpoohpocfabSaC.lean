/- Contracts of the closures that hold two expressions, two statements against each other. -/
import Derived.Test.YtpbdjpoohpocfabSaB
namespace Go.Proofs.Ytpbdjpoohpocfab
set_option maxRecDepth 20000
set_option maxHeartbeats 4000000
namespace E
open Go.Proofs

section
variable {F : Nat → Prop} {w0 w : World} {xs ms xe me : Nat} {Ms Me : List Nat} {Ps : List PS} {Pe : List PE}

theorem sameE_ret (h : Both F w0 w xs ms xe me Ms Me Ps Pe) {t : AE} {u : ET} {ca cb : List Value} (ha : AExprV w0 ca t) (hb : ExprV F w0 cb u) (hc : ∀ b, Me.count b + cE b t ≤ 1) (hz : mE Pe + mS Ps ≤ 100000) :
    Ret Try.prog 71 [.agg ca.toArray, .agg cb.toArray, .pointer (some ⟨xe, 0, none⟩)] w (Out false F w0 xs ms xe me Ms Me Ps Pe (eqE (erE t) u) (fun b => cE b t) (fun _ => 0) (szE (erE t)) w) := by
  obtain ⟨op, v, n, g, l⟩ := t
  obtain ⟨op', v', n', l'⟩ := u
  obtain ⟨lv, rfl, hl⟩ := ha.inv
  obtain ⟨lv', rfl, hl'⟩ := hb.inv
  refine ret_of 32 Try.func71 rfl rfl (by simp) ?_
  (repeat (first | refine pl_pure hT rfl rfl rfl ?_ | refine pl_nil ?_ | refine rn_seq ?_ | refine rn_plain ?_ | refine rn_block ?_ | refine rn_inBlock ?_ | refine rn_skip ?_ | refine rn_true rfl ?_ | refine rn_false rfl ?_ | refine rn_exit rfl ?_ | refine pl_not rfl rfl ?_))
  refine pl_op rfl rfl (opTo_boxN [.int .i64 op, .int .i64 v, .int .i64 n, lv] rfl rfl rfl ?_)
  intro w1 b1 hb1 hs1 hk1 hB1
  refine pl_op rfl rfl (opTo_boxN [.int .i64 op', .int .i64 v', .int .i64 n', lv'] rfl rfl rfl ?_)
  intro w2 b2 hb2 hs2 hk2 hB2
  have hB12 := hk2.blk hB1 (by simp)
  have hk : Keep [] w w2 := hk1.tr hk2
  clear hB1 hk1 hk2
  by_cases h1 : op = op'
  · by_cases h2 : v = v'
    · by_cases h3 : n = n'
      · (repeat (first | refine pl_pure hT rfl rfl rfl ?_ | refine pl_nil ?_ | refine rn_seq ?_ | refine rn_plain ?_ | refine rn_block ?_ | refine rn_inBlock ?_ | refine rn_skip ?_ | refine rn_true rfl ?_ | refine rn_false rfl ?_ | refine rn_exit rfl ?_ | refine pl_not rfl rfl ?_ | refine pl_val _ rfl rfl (val_load1 hT rfl rfl rfl (Blk.cell (by assumption) (by rfl))) ?_ | refine pl_yes rfl rfl rfl rfl rfl (by first | (simp only [cmpP]; omega) | (simp [cmpP]; done) | (simp [cmpP]; omega)) ?_ | refine pl_no rfl rfl rfl rfl rfl rfl (by first | (simp only [cmpP]; omega) | (simp [cmpP]; done) | (simp [cmpP]; omega)) ?_))
        refine pl_op rfl rfl (opTo_call rfl rfl rfl rfl (by decide +kernel) ((addE_out (h.keep hk) hl hl' (fun b => by have := hc b; simp only [cE] at this; omega) hz).mono ?_))
        intro r w3 hO
        have hO' := Out.pre (TwA.of hk) hO
        obtain ⟨res, rfl, _⟩ := hO
        (repeat (first | refine pl_pure hT rfl rfl rfl ?_ | refine pl_nil ?_ | refine rn_seq ?_ | refine rn_plain ?_ | refine rn_block ?_ | refine rn_inBlock ?_ | refine rn_skip ?_ | refine rn_true rfl ?_ | refine rn_false rfl ?_ | refine rn_exit rfl ?_ | refine pl_not rfl rfl ?_))
        exact rn_ret Try.func71 (.inl ⟨_, rfl, rfl⟩) (hO'.congr (by simp [erE, eqE, h1, h2, h3]) (fun b => by simp only [cE]) (fun _ => rfl) (by simp only [erE, szE]; omega))
      · (repeat (first | refine pl_pure hT rfl rfl rfl ?_ | refine pl_nil ?_ | refine rn_seq ?_ | refine rn_plain ?_ | refine rn_block ?_ | refine rn_inBlock ?_ | refine rn_skip ?_ | refine rn_true rfl ?_ | refine rn_false rfl ?_ | refine rn_exit rfl ?_ | refine pl_not rfl rfl ?_ | refine pl_val _ rfl rfl (val_load1 hT rfl rfl rfl (Blk.cell (by assumption) (by rfl))) ?_ | refine pl_yes rfl rfl rfl rfl rfl (by first | (simp only [cmpP]; omega) | (simp [cmpP]; done) | (simp [cmpP]; omega)) ?_ | refine pl_no rfl rfl rfl rfl rfl rfl (by first | (simp only [cmpP]; omega) | (simp [cmpP]; done) | (simp [cmpP]; omega)) ?_))
        exact rn_ret Try.func71 (.inl ⟨_, rfl, rfl⟩) (Out.no (TwA.of hk) (by simp [erE, eqE, h3]))
    · (repeat (first | refine pl_pure hT rfl rfl rfl ?_ | refine pl_nil ?_ | refine rn_seq ?_ | refine rn_plain ?_ | refine rn_block ?_ | refine rn_inBlock ?_ | refine rn_skip ?_ | refine rn_true rfl ?_ | refine rn_false rfl ?_ | refine rn_exit rfl ?_ | refine pl_not rfl rfl ?_ | refine pl_val _ rfl rfl (val_load1 hT rfl rfl rfl (Blk.cell (by assumption) (by rfl))) ?_ | refine pl_yes rfl rfl rfl rfl rfl (by first | (simp only [cmpP]; omega) | (simp [cmpP]; done) | (simp [cmpP]; omega)) ?_ | refine pl_no rfl rfl rfl rfl rfl rfl (by first | (simp only [cmpP]; omega) | (simp [cmpP]; done) | (simp [cmpP]; omega)) ?_))
      exact rn_ret Try.func71 (.inl ⟨_, rfl, rfl⟩) (Out.no (TwA.of hk) (by simp [erE, eqE, h2]))
  · (repeat (first | refine pl_pure hT rfl rfl rfl ?_ | refine pl_nil ?_ | refine rn_seq ?_ | refine rn_plain ?_ | refine rn_block ?_ | refine rn_inBlock ?_ | refine rn_skip ?_ | refine rn_true rfl ?_ | refine rn_false rfl ?_ | refine rn_exit rfl ?_ | refine pl_not rfl rfl ?_ | refine pl_val _ rfl rfl (val_load1 hT rfl rfl rfl (Blk.cell (by assumption) (by rfl))) ?_ | refine pl_yes rfl rfl rfl rfl rfl (by first | (simp only [cmpP]; omega) | (simp [cmpP]; done) | (simp [cmpP]; omega)) ?_ | refine pl_no rfl rfl rfl rfl rfl rfl (by first | (simp only [cmpP]; omega) | (simp [cmpP]; done) | (simp [cmpP]; omega)) ?_))
    exact rn_ret Try.func71 (.inl ⟨_, rfl, rfl⟩) (Out.no (TwA.of hk) (by simp [erE, eqE, h1]))

abbrev tFE : Nat := 141
def cl1 (xe : Nat) : Value := .func (.func 71) #[] #[.pointer (some ⟨xe, 0, none⟩)]
def cl2 (bx xs : Nat) : Value := .func (.func 73) #[] #[.pointer (some ⟨bx, 0, none⟩), .pointer (some ⟨xs, 0, none⟩)]

theorem sameS_ret (h : Both F w0 w xs ms xe me Ms Me Ps Pe) {bx : Nat} (hx : Blk w bx [cl1 xe] tFE) {t : AS} {u : ST} {ca cb : List Value} (ha : AStmtV w0 ca t) (hb : StmtV F w0 cb u) (hc : ∀ b, Me.count b + xS b t ≤ 1) (hcs : ∀ b, Ms.count b + sS b t ≤ 1) (hz : mE Pe + mS Ps + szS (erS t) ≤ 100000) :
    Ret Try.prog 73 [.agg ca.toArray, .agg cb.toArray, .pointer (some ⟨bx, 0, none⟩), .pointer (some ⟨xs, 0, none⟩)] w (Out true F w0 xs ms xe me Ms Me Ps Pe (eqS (erS t) u) (fun b => xS b t) (fun b => sS b t) (szS (erS t)) w) := by
  obtain ⟨op, v, e, f, gb, lb, go, lo⟩ := t
  obtain ⟨op', v', e', f', lb', lo'⟩ := u
  obtain ⟨ce, cf, bv, ov, rfl, he, hf, hlb, hlo⟩ := ha.inv
  obtain ⟨ce', cf', bv', ov', rfl, he', hf', hlb', hlo'⟩ := hb.inv
  obtain ⟨e0, e1, e2, e3, rfl⟩ := list4 he.length
  obtain ⟨f0, f1, f2, f3, rfl⟩ := list4 hf.length
  obtain ⟨d0, d1, d2, d3, rfl⟩ := list4 he'.length
  obtain ⟨c0, c1, c2, c3, rfl⟩ := list4 hf'.length
  simp only [erS, szS] at hz
  simp only [xS] at hc
  simp only [sS] at hcs
  refine ret_of 49 Try.func73 rfl rfl (by simp) ?_
  (repeat (first | refine pl_pure hT rfl rfl rfl ?_ | refine pl_nil ?_ | refine rn_seq ?_ | refine rn_plain ?_ | refine rn_block ?_ | refine rn_inBlock ?_ | refine rn_skip ?_ | refine rn_true rfl ?_ | refine rn_false rfl ?_ | refine rn_exit rfl ?_ | refine pl_not rfl rfl ?_))
  refine pl_op rfl rfl (opTo_boxN [.int .i64 op, .int .i64 v, e0, e1, e2, e3, f0, f1, f2, f3, bv, ov] rfl rfl rfl ?_)
  intro w1 b1 hb1 hs1 hk1 hB1
  refine pl_op rfl rfl (opTo_boxN [.int .i64 op', .int .i64 v', d0, d1, d2, d3, c0, c1, c2, c3, bv', ov'] rfl rfl rfl ?_)
  intro w2 b2 hb2 hs2 hk2 hB2
  have hB12 := hk2.blk hB1 (by simp)
  have hk : Keep [] w w2 := hk1.tr hk2
  have hx2 := hk.blk hx (by simp)
  have h2B := h.keep hk
  unfold cl1 at hx2
  clear hB1 hk1 hk2
  by_cases h1 : op = op'
  · by_cases h2 : v = v'
    · (repeat (first | refine pl_pure hT rfl rfl rfl ?_ | refine pl_nil ?_ | refine rn_seq ?_ | refine rn_plain ?_ | refine rn_block ?_ | refine rn_inBlock ?_ | refine rn_skip ?_ | refine rn_true rfl ?_ | refine rn_false rfl ?_ | refine rn_exit rfl ?_ | refine pl_not rfl rfl ?_ | refine pl_val _ rfl rfl (val_load1 hT rfl rfl rfl (Blk.cell (by assumption) (by rfl))) ?_ | refine pl_yes rfl rfl rfl rfl rfl (by first | (simp only [cmpP]; omega) | (simp [cmpP]; done) | (simp [cmpP]; omega)) ?_ | refine pl_no rfl rfl rfl rfl rfl rfl (by first | (simp only [cmpP]; omega) | (simp [cmpP]; done) | (simp [cmpP]; omega)) ?_))
      refine pl_val _ rfl rfl (val_load [e0, e1, e2, e3] hT rfl rfl rfl (hB12.range (by rfl))) ?_
      (repeat (first | refine pl_pure hT rfl rfl rfl ?_ | refine pl_nil ?_ | refine rn_seq ?_ | refine rn_plain ?_ | refine rn_block ?_ | refine rn_inBlock ?_ | refine rn_skip ?_ | refine rn_true rfl ?_ | refine rn_false rfl ?_ | refine rn_exit rfl ?_ | refine pl_not rfl rfl ?_))
      refine pl_val _ rfl rfl (val_load [d0, d1, d2, d3] hT rfl rfl rfl (hB2.range (by rfl))) ?_
      refine pl_op rfl rfl (opTo_call (fst := []) (cap := [.pointer (some ⟨xe, 0, none⟩)]) rfl rfl rfl rfl (by decide +kernel) ((sameE_ret h2B he he' (fun b => by have := hc b; omega) (by omega)).mono ?_))
      rintro r w3 ⟨res, rfl, ht3, hf3, htr3⟩
      have ht3w : TwA w0 xs ms xe me w w3 := Tw.trans (TwA.of hk) ht3
      cases res with
      | false =>
        (repeat (first | refine pl_pure hT rfl rfl rfl ?_ | refine pl_nil ?_ | refine rn_seq ?_ | refine rn_plain ?_ | refine rn_block ?_ | refine rn_inBlock ?_ | refine rn_skip ?_ | refine rn_true rfl ?_ | refine rn_false rfl ?_ | refine rn_exit rfl ?_ | refine pl_not rfl rfl ?_ | refine pl_val _ rfl rfl (val_load1 hT rfl rfl rfl (Blk.cell (by assumption) (by rfl))) ?_ | refine pl_yes rfl rfl rfl rfl rfl (by first | (simp only [cmpP]; omega) | (simp [cmpP]; done) | (simp [cmpP]; omega)) ?_ | refine pl_no rfl rfl rfl rfl rfl rfl (by first | (simp only [cmpP]; omega) | (simp [cmpP]; done) | (simp [cmpP]; omega)) ?_))
        exact rn_ret Try.func73 (.inl ⟨_, rfl, rfl⟩) (Out.no ht3w (by simp [erS, eqS, hf3 rfl]))
      | true =>
        obtain ⟨Ms3, Me3, Ns3, Ne3, hB3, hg3, hcx3, hcs3, hz3, _⟩ := htr3 rfl
        simp only at hcx3 hcs3
        have hB13 := h2B.stays ht3 hB12 (by decide) (by decide) (by decide)
        have hB23 := h2B.stays ht3 hB2 (by decide) (by decide) (by decide)
        have hx3 := h2B.stays ht3 hx2 (by decide) (by decide) (by decide)
        (repeat (first | refine pl_pure hT rfl rfl rfl ?_ | refine pl_nil ?_ | refine rn_seq ?_ | refine rn_plain ?_ | refine rn_block ?_ | refine rn_inBlock ?_ | refine rn_skip ?_ | refine rn_true rfl ?_ | refine rn_false rfl ?_ | refine rn_exit rfl ?_ | refine pl_not rfl rfl ?_ | refine pl_val _ rfl rfl (val_load1 hT rfl rfl rfl (Blk.cell (by assumption) (by rfl))) ?_ | refine pl_yes rfl rfl rfl rfl rfl (by first | (simp only [cmpP]; omega) | (simp [cmpP]; done) | (simp [cmpP]; omega)) ?_ | refine pl_no rfl rfl rfl rfl rfl rfl (by first | (simp only [cmpP]; omega) | (simp [cmpP]; done) | (simp [cmpP]; omega)) ?_))
        refine pl_val _ rfl rfl (val_load [f0, f1, f2, f3] hT rfl rfl rfl (hB13.range (by rfl))) ?_
        (repeat (first | refine pl_pure hT rfl rfl rfl ?_ | refine pl_nil ?_ | refine rn_seq ?_ | refine rn_plain ?_ | refine rn_block ?_ | refine rn_inBlock ?_ | refine rn_skip ?_ | refine rn_true rfl ?_ | refine rn_false rfl ?_ | refine rn_exit rfl ?_ | refine pl_not rfl rfl ?_))
        refine pl_val _ rfl rfl (val_load [c0, c1, c2, c3] hT rfl rfl rfl (hB23.range (by rfl))) ?_
        refine pl_op rfl rfl (opTo_call (fst := []) (cap := [.pointer (some ⟨xe, 0, none⟩)]) rfl rfl rfl rfl (by decide +kernel) ((sameE_ret hB3 hf hf' (fun b => by have := hc b; have := hcx3 b; omega) (by rw [mE_append, mS_append]; omega)).mono ?_))
        intro r w4 hO4
        have hP4 := Out.after ht3w hg3 hcx3 hcs3 (s1 := szE (erE e) - 1) (by omega) (fun h => (by cases h)) hO4.up
        obtain ⟨res, rfl, ht4, _⟩ := hO4
        obtain ⟨res', hres, ht4w, hf4, htr4⟩ := hP4
        cases hres
        cases res with
        | false =>
          (repeat (first | refine pl_pure hT rfl rfl rfl ?_ | refine pl_nil ?_ | refine rn_seq ?_ | refine rn_plain ?_ | refine rn_block ?_ | refine rn_inBlock ?_ | refine rn_skip ?_ | refine rn_true rfl ?_ | refine rn_false rfl ?_ | refine rn_exit rfl ?_ | refine pl_not rfl rfl ?_ | refine pl_val _ rfl rfl (val_load1 hT rfl rfl rfl (Blk.cell (by assumption) (by rfl))) ?_ | refine pl_yes rfl rfl rfl rfl rfl (by first | (simp only [cmpP]; omega) | (simp [cmpP]; done) | (simp [cmpP]; omega)) ?_ | refine pl_no rfl rfl rfl rfl rfl rfl (by first | (simp only [cmpP]; omega) | (simp [cmpP]; done) | (simp [cmpP]; omega)) ?_))
          refine rn_ret Try.func73 (.inl ⟨_, rfl, rfl⟩) (Out.no ht4w ?_)
          have := hf4 rfl
          simp only [erS, eqS]
          revert this
          cases eqE (erE e) e' <;> cases eqE (erE f) f' <;> simp
        | true =>
          obtain ⟨Ms4, Me4, Ns4, Ne4, hB4, hg4, hcx4, hcs4, hz4, _⟩ := htr4 rfl
          simp only at hcx4 hcs4
          have hB14 := hB3.stays ht4 hB13 (by decide) (by decide) (by decide)
          have hB24 := hB3.stays ht4 hB23 (by decide) (by decide) (by decide)
          (repeat (first | refine pl_pure hT rfl rfl rfl ?_ | refine pl_nil ?_ | refine rn_seq ?_ | refine rn_plain ?_ | refine rn_block ?_ | refine rn_inBlock ?_ | refine rn_skip ?_ | refine rn_true rfl ?_ | refine rn_false rfl ?_ | refine rn_exit rfl ?_ | refine pl_not rfl rfl ?_ | refine pl_val _ rfl rfl (val_load1 hT rfl rfl rfl (Blk.cell (by assumption) (by rfl))) ?_ | refine pl_yes rfl rfl rfl rfl rfl (by first | (simp only [cmpP]; omega) | (simp [cmpP]; done) | (simp [cmpP]; omega)) ?_ | refine pl_no rfl rfl rfl rfl rfl rfl (by first | (simp only [cmpP]; omega) | (simp [cmpP]; done) | (simp [cmpP]; omega)) ?_))
          refine pl_op rfl rfl (opTo_call rfl rfl rfl rfl (by decide +kernel) ((addS_out hB4 hlb hlb' (fun b => by have := hcs b; have := hcs4 b; omega) (by rw [mE_append, mS_append]; have := szE_pos (erE f); omega)).mono ?_))
          intro r w5 hO5
          have hP5 := Out.after ht4w hg4 hcx4 hcs4 (s1 := szE (erE e) - 1 + szE (erE f) - 1) (by have := szE_pos (erE f); omega) (fun h => (by cases h)) hO5
          obtain ⟨res, rfl, ht5, _⟩ := hO5
          obtain ⟨res', hres, ht5w, hf5, htr5⟩ := hP5
          cases hres
          cases res with
          | false =>
            (repeat (first | refine pl_pure hT rfl rfl rfl ?_ | refine pl_nil ?_ | refine rn_seq ?_ | refine rn_plain ?_ | refine rn_block ?_ | refine rn_inBlock ?_ | refine rn_skip ?_ | refine rn_true rfl ?_ | refine rn_false rfl ?_ | refine rn_exit rfl ?_ | refine pl_not rfl rfl ?_ | refine pl_val _ rfl rfl (val_load1 hT rfl rfl rfl (Blk.cell (by assumption) (by rfl))) ?_ | refine pl_yes rfl rfl rfl rfl rfl (by first | (simp only [cmpP]; omega) | (simp [cmpP]; done) | (simp [cmpP]; omega)) ?_ | refine pl_no rfl rfl rfl rfl rfl rfl (by first | (simp only [cmpP]; omega) | (simp [cmpP]; done) | (simp [cmpP]; omega)) ?_))
            refine rn_ret Try.func73 (.inl ⟨_, rfl, rfl⟩) (Out.no ht5w ?_)
            have := hf5 rfl
            simp only [erS, eqS]
            revert this
            cases eqE (erE e) e' <;> cases eqE (erE f) f' <;> cases eqSs (erSs lb) lb' <;> simp
          | true =>
            obtain ⟨Ms5, Me5, Ns5, Ne5, hB5, hg5, hcx5, hcs5, hz5, _⟩ := htr5 rfl
            simp only at hcx5 hcs5
            have hB15 := hB4.stays ht5 hB14 (by decide) (by decide) (by decide)
            have hB25 := hB4.stays ht5 hB24 (by decide) (by decide) (by decide)
            have := szE_pos (erE f)
            have := szE_pos (erE e)
            (repeat (first | refine pl_pure hT rfl rfl rfl ?_ | refine pl_nil ?_ | refine rn_seq ?_ | refine rn_plain ?_ | refine rn_block ?_ | refine rn_inBlock ?_ | refine rn_skip ?_ | refine rn_true rfl ?_ | refine rn_false rfl ?_ | refine rn_exit rfl ?_ | refine pl_not rfl rfl ?_ | refine pl_val _ rfl rfl (val_load1 hT rfl rfl rfl (Blk.cell (by assumption) (by rfl))) ?_ | refine pl_yes rfl rfl rfl rfl rfl (by first | (simp only [cmpP]; omega) | (simp [cmpP]; done) | (simp [cmpP]; omega)) ?_ | refine pl_no rfl rfl rfl rfl rfl rfl (by first | (simp only [cmpP]; omega) | (simp [cmpP]; done) | (simp [cmpP]; omega)) ?_))
            refine pl_op rfl rfl (opTo_call rfl rfl rfl rfl (by decide +kernel) ((addS_out hB5 hlo hlo' (fun b => by have := hcs b; have := hcs5 b; omega) (by rw [mE_append, mS_append]; omega)).mono ?_))
            intro r w6 hO6
            have hP6 := Out.after ht5w hg5 hcx5 hcs5 (s1 := szE (erE e) - 1 + szE (erE f) - 1 + szSs (erSs lb)) (by omega) (fun h => (by cases h)) hO6
            obtain ⟨res, rfl, ht6, _⟩ := hO6
            (repeat (first | refine pl_pure hT rfl rfl rfl ?_ | refine pl_nil ?_ | refine rn_seq ?_ | refine rn_plain ?_ | refine rn_block ?_ | refine rn_inBlock ?_ | refine rn_skip ?_ | refine rn_true rfl ?_ | refine rn_false rfl ?_ | refine rn_exit rfl ?_ | refine pl_not rfl rfl ?_))
            refine rn_ret Try.func73 (.inl ⟨_, rfl, rfl⟩) (hP6.congr ?_ (fun b => by simp only [xS] <;> omega) (fun b => by simp only [sS] <;> omega) (by simp only [erS, szS]; omega))
            simp [erS, eqS, h1, h2, Bool.and_assoc]
    · (repeat (first | refine pl_pure hT rfl rfl rfl ?_ | refine pl_nil ?_ | refine rn_seq ?_ | refine rn_plain ?_ | refine rn_block ?_ | refine rn_inBlock ?_ | refine rn_skip ?_ | refine rn_true rfl ?_ | refine rn_false rfl ?_ | refine rn_exit rfl ?_ | refine pl_not rfl rfl ?_ | refine pl_val _ rfl rfl (val_load1 hT rfl rfl rfl (Blk.cell (by assumption) (by rfl))) ?_ | refine pl_yes rfl rfl rfl rfl rfl (by first | (simp only [cmpP]; omega) | (simp [cmpP]; done) | (simp [cmpP]; omega)) ?_ | refine pl_no rfl rfl rfl rfl rfl rfl (by first | (simp only [cmpP]; omega) | (simp [cmpP]; done) | (simp [cmpP]; omega)) ?_))
      exact rn_ret Try.func73 (.inl ⟨_, rfl, rfl⟩) (Out.no (TwA.of hk) (by simp [erS, eqS, h2]))
  · (repeat (first | refine pl_pure hT rfl rfl rfl ?_ | refine pl_nil ?_ | refine rn_seq ?_ | refine rn_plain ?_ | refine rn_block ?_ | refine rn_inBlock ?_ | refine rn_skip ?_ | refine rn_true rfl ?_ | refine rn_false rfl ?_ | refine rn_exit rfl ?_ | refine pl_not rfl rfl ?_ | refine pl_val _ rfl rfl (val_load1 hT rfl rfl rfl (Blk.cell (by assumption) (by rfl))) ?_ | refine pl_yes rfl rfl rfl rfl rfl (by first | (simp only [cmpP]; omega) | (simp [cmpP]; done) | (simp [cmpP]; omega)) ?_ | refine pl_no rfl rfl rfl rfl rfl rfl (by first | (simp only [cmpP]; omega) | (simp [cmpP]; done) | (simp [cmpP]; omega)) ?_))
    exact rn_ret Try.func73 (.inl ⟨_, rfl, rfl⟩) (Out.no (TwA.of hk) (by simp [erS, eqS, h1]))
end
end E
end Go.Proofs.Ytpbdjpoohpocfab
