/- Several texts in one: CoH2, RfB, RfC. -/
import Derived.Test.YtcgigfnbjmlhhadJ05
import Derived.Test.YtcgigfnbjmlhhadJ04
/- Contracts of the document's ownList and Own. -/
namespace Go.Proofs.Ytcgigfnbjmlhhad
set_option maxRecDepth 20000
set_option maxHeartbeats 4000000
namespace E
open Go.Proofs

theorem built_stmt6 (a b : Int) (e0 e1 e2 e3 f0 f1 f2 f3 : Value) (p q : Option Addr) (m c m' c' : Nat) : Try.prog.built 49 [(0, .int .i64 a), (1, .int .i64 b), (2, .agg #[e0, e1, e2, e3]), (3, .agg #[f0, f1, f2, f3]), (4, .slice p m c), (5, .slice q m' c')] = some [Value.int .i64 a, .int .i64 b, e0, e1, e2, e3, f0, f1, f2, f3, .slice p m c, .slice q m' c'].toArray := by kernel_rfl
theorem slice_stmtO (a b c d e f g h i j k l : Value) : sliceCells Try.prog 23 1 [(0, .agg #[a, b, c, d, e, f, g, h, i, j, k, l])] = some (49, #[a, b, c, d, e, f, g, h, i, j, k, l]) := by kernel_rfl

theorem ownList_ret : ∀ (k : Nat) (l : List ST), szSs l < k → szSs l ≤ 1000 → ∀ {F : Nat → Prop} {w : World} {x : Value}, StmtsV F w x l → In F w →
    Ret Try.prog 16 [x] w fun r w' => (∃ g ts, AStmtsV w' r g ts ∧ erSs ts = l ∧ Cnts (fun b => hit g b ts.length + sSs b ts) w.heap.size w'.heap.size ∧ Cnts (fun b => xSs b ts) w.heap.size w'.heap.size) ∧ Keep [] w w' := by
  intro k
  induction k with
  | zero => intro l hl; omega
  | succ k ih =>
    intro l hl hl3 F w x h hF
    obtain ⟨a, cap, rfl⟩ := h.form
    have hlen := szSs_len l
    refine ret_of 50 Try.func16 rfl rfl (by simp) ?_
    refine au ?_
    refine rn_ind (fun m σ w' => ∃ (i : Nat) (rv : Value) (ccs : List (List Value)) (ts : List AS), i ≤ l.length ∧ m = l.length - i ∧ σ = [(0, .slice a l.length cap), (3, rv), (4, .int .i64 (i : Nat))] ∧
      GrowS 49 w' w.heap.size rv ccs ts ∧ erSs ts = l.take i ∧ Keep [] w w') l.length _ ?_ ⟨0, _, [], [], by omega, by omega, rfl, GrowS.nil _ _ _, rfl, Keep.refl _ _⟩ ?_
    · exact ⟨rfl, rfl, rfl, trivial⟩
    rintro m σ w5 ih2 ⟨i, rv, ccs, ts, hi, rfl, rfl, hG, her, hkw⟩
    have hti : ts.length = i := by
      have := congrArg List.length her
      rw [erSs_length, List.length_take] at this
      omega
    refine au ?_
    by_cases hlt : i < l.length
    · refine ye ?_
      refine au ?_
      have hget : l[i]? = some l[i] := List.getElem?_eq_getElem hlt
      have hsz := szSs_at hget
      obtain ⟨op, v, e, f, lb, lo, hs⟩ : ∃ op v e f lb lo, l[i] = ST.mk op v e f lb lo := by cases l[i]; exact ⟨_, _, _, _, _, _, rfl⟩
      rw [hs] at hget hsz
      simp only [szS] at hsz
      obtain ⟨bb, q, cap', ce, cf, bv, ov, hv, hat⟩ := (h.keep hkw hF.stays).stmtAt hget
      cases hv
      have hF5 := hF.keep hkw
      refine rn_draw (fun w' => Keep [] w5 w') [37] hMix ?_
      have hS : Keep [] w5 w5.drew := (Keep.refl _ _).drew
      generalize w5.drew = w6 at *
      refine tk 0 ?_
      refine tk 1 ?_
      refine tk 2 ?_
      refine dr_any 3 _ rfl (by decide +kernel) rfl rfl (fun w => val_index i hT rfl rfl rfl rfl rfl hlt w) ?_
      refine tk 4 ?_
      refine dr_val 5 _ rfl (by decide +kernel) rfl rfl (fun w9 hS9 => val_load1 hT rfl rfl rfl (hat.keep hS9 hF5.stays).cop) hS ?_
      refine tk 6 ?_
      refine tk 7 ?_
      refine dr_any 8 _ rfl (by decide +kernel) rfl rfl (fun w => val_index i hT rfl rfl rfl rfl rfl hlt w) ?_
      refine tk 9 ?_
      refine dr_val 10 _ rfl (by decide +kernel) rfl rfl (fun w9 hS9 => val_load1 hT rfl rfl rfl (hat.keep hS9 hF5.stays).cv) hS ?_
      refine tk 11 ?_
      refine tk 12 ?_
      refine dr_any 13 _ rfl (by decide +kernel) rfl rfl (fun w => val_index i hT rfl rfl rfl rfl rfl hlt w) ?_
      refine tk 14 ?_
      refine dr_val 15 (.agg ce.toArray) rfl (by decide +kernel) rfl rfl (fun w9 hS9 => val_load ce hT rfl rfl (by rw [hat.he.length]; rfl) (hat.keep hS9 hF5.stays).re) hS ?_
      refine tk 17 ?_
      refine tk 18 ?_
      refine dr_any 19 _ rfl (by decide +kernel) rfl rfl (fun w => val_index i hT rfl rfl rfl rfl rfl hlt w) ?_
      refine tk 20 ?_
      refine dr_val 21 (.agg cf.toArray) rfl (by decide +kernel) rfl rfl (fun w9 hS9 => val_load cf hT rfl rfl (by rw [hat.hf.length]; rfl) (hat.keep hS9 hF5.stays).rf) hS ?_
      refine tk 23 ?_
      refine tk 24 ?_
      refine dr_any 25 _ rfl (by decide +kernel) rfl rfl (fun w => val_index i hT rfl rfl rfl rfl rfl hlt w) ?_
      refine tk 26 ?_
      refine dr_val 27 bv rfl (by decide +kernel) rfl rfl (fun w9 hS9 => val_load1 hT rfl rfl rfl (hat.keep hS9 hF5.stays).cb) hS ?_
      refine tk 29 ?_
      refine tk 30 ?_
      refine dr_any 31 _ rfl (by decide +kernel) rfl rfl (fun w => val_index i hT rfl rfl rfl rfl rfl hlt w) ?_
      refine tk 32 ?_
      refine dr_val 33 ov rfl (by decide +kernel) rfl rfl (fun w9 hS9 => val_load1 hT rfl rfl rfl (hat.keep hS9 hF5.stays).co) hS ?_
      refine dr_op 16 rfl (by decide +kernel) rfl rfl (opTo_call rfl rfl rfl rfl (by decide +kernel) ((ownExpr_ret _ e (Nat.le_refl _) (by omega) (hat.keep hS hF5.stays).he (hF5.keep hS)).mono ?_))
      rintro v7 w7 ⟨⟨e', ce', rfl, hAe, hee, hCe⟩, hk7⟩
      have hS7 := hS.tr hk7
      refine ⟨fun _ => hS7, ?_⟩
      refine dr_op 22 rfl (by decide +kernel) rfl rfl (opTo_call rfl rfl rfl rfl (by decide +kernel) ((ownExpr_ret _ f (Nat.le_refl _) (by omega) (hat.keep hS7 hF5.stays).hf (hF5.keep hS7)).mono ?_))
      rintro v8 w8 ⟨⟨f', cf', rfl, hAf, hef, hCf⟩, hk8⟩
      have hS8 := hS7.tr hk8
      refine ⟨fun _ => hS8, ?_⟩
      refine dr_op 28 rfl (by decide +kernel) rfl rfl (opTo_call rfl rfl rfl rfl (by decide +kernel) ((ih lb (by omega) (by omega) (hat.keep hS8 hF5.stays).hb (hF5.keep hS8)).mono ?_))
      rintro v9 w9 ⟨⟨gb, tb, hAb, heb, hCb, hXb⟩, hk9⟩
      have hS9 := hS8.tr hk9
      refine ⟨fun _ => hS9, ?_⟩
      refine dr_op 34 rfl (by decide +kernel) rfl rfl (opTo_call rfl rfl rfl rfl (by decide +kernel) ((ih lo (by omega) (by omega) (hat.keep hS9 hF5.stays).ho (hF5.keep hS9)).mono ?_))
      rintro v10 w10 ⟨⟨go, to', hAo, heo, hCo, hXo⟩, hk10⟩
      have hS10 := hS9.tr hk10
      refine ⟨fun _ => hS10, ?_⟩
      obtain ⟨e0, e1, e2, e3, rfl⟩ := list4 hAe.length
      obtain ⟨f0, f1, f2, f3, rfl⟩ := list4 hAf.length
      obtain ⟨ab, capb, rfl⟩ := hAb.form
      obtain ⟨ao, capo, rfl⟩ := hAo.form
      refine dr_any 35 _ rfl (by decide +kernel) rfl rfl (fun w => val_build _ rfl rfl (built_stmt6 op v e0 e1 e2 e3 f0 f1 f2 f3 _ _ _ _ _ _) w) ?_
      refine dr_op 36 rfl (by decide +kernel) rfl rfl (opTo_sliceN _ _ rfl rfl (slice_stmtO _ _ _ _ _ _ _ _ _ _ _ _) ?_)
      intro w11 x11 hx11 hs11 hk11 hX11
      have hS11 := hS10.tr hk11
      refine ⟨fun _ => hS11, ?_⟩
      have hG6 := hG.keep hS
      have hG11 := hG.keep hS11
      have hk611 : Keep [] w6 w11 := (((hk7.tr hk8).tr hk9).tr hk10).tr hk11
      have hA : AStmtV w11 (scells op v [e0, e1, e2, e3] [f0, f1, f2, f3] (.slice ab tb.length capb) (.slice ao to'.length capo)) (.mk op v e' f' gb tb go to') :=
        AStmtV.of ((((hAe.keep hk8).keep hk9).keep hk10).keep hk11) (((hAf.keep hk9).keep hk10).keep hk11) ((hAb.keep hk10).keep hk11) (hAo.keep hk11)
      have hcS : Cnts (fun b => sS b (.mk op v e' f' gb tb go to')) w6.heap.size w11.heap.size :=
        ((hCb.add hCo hk9.size hk10.size).mono (by have := hk7.size; have := hk8.size; omega) hk11.size).congr fun b => by simp only [sS]; omega
      have hcX : Cnts (fun b => xS b (.mk op v e' f' gb tb go to')) w6.heap.size w11.heap.size :=
        (((((hCe.add hCf hk7.size hk8.size).add hXb (by have := hk7.size; have := hk8.size; omega) hk9.size)).add hXo (by have := hk7.size; have := hk8.size; have := hk9.size; omega) hk10.size).mono (Nat.le_refl _) hk11.size).congr fun b => by simp only [xS]
      have hci3 := hG.len
      refine dr_op 37 rfl (by decide +kernel) rfl rfl (opTo_app w.heap.size 49 12 160 ccs.flatten (scells op v [e0, e1, e2, e3] [f0, f1, f2, f3] (.slice ab tb.length capb) (.slice ao to'.length capo)) rfl rfl rfl (by decide +kernel) hG11.own (hX11.range (by rfl)) rfl hA.plain.one (by decide) (by unfold maxLen; omega) (by omega) (by have := hkw.size; have := hS11.size; omega) ?_)
      intro g12 cap12 w12 ho12 hor12
      refine ⟨fun h => absurd h (by simp), ?_⟩
      have hG12 := hG6.app hA hcS hcX hk611 (by have := hkw.size; have := hS.size; omega) ho12 hor12
      have hkw12 : Keep [] w w12 := by
        rcases hor12 with ⟨h2, _, h3⟩ | ⟨_, h3, _⟩
        · exact (hkw.tr hS11).trB h3 (hG11.own.lt g12 h2).1
        · exact (hkw.tr hS11).tr h3
      refine tk 38 ?_
      refine dr_done (by decide +kernel) ?_
      refine au ?_
      refine pl_num (((i + 1 : Nat) : Int)) rfl rfl rfl rfl rfl (by simp only [ariP]; omega) ?_
      refine au ?_
      refine rn_sub ?_ (ih2 (l.length - (i + 1)) [(0, .slice (some ⟨bb, q, none⟩) l.length cap), (3, .slice (some ⟨g12, 0, none⟩) (ccs.length + 1) cap12), (4, .int .i64 ((i + 1 : Nat) : Int))] w12 (by omega)
        ⟨i + 1, _, _, _, by omega, rfl, rfl, hG12, erSs_take_succ her hlt (by rw [hs]; simp only [erS, hee, hef, heb, heo]), hkw12⟩)
      exact ⟨rfl, rfl, rfl, trivial⟩
    · refine nay ?_
      refine au ?_
      obtain ⟨g, hA, hC⟩ := hG.done
      rw [List.take_of_length_le (by omega)] at her
      exact rn_ret Try.func16 (.inl ⟨_, rfl, rfl⟩) ⟨⟨g, ts, hA, her, hC, hG.cntX⟩, hkw⟩

theorem opTo_app0 {P : Program} {n : Nat} {σ : Env} {o : Oper} {w : World} {t : TypeId} {s x : Operand} {a : Option Addr} {c : Nat} {K : Value → World → Prop} (e size bytes : Nat)
    (ho : o.op = .call { callee := .builtin .append, args := #[s, x], argTypes := #[t, t] }) (hs : ev σ s = some (.slice none 0 0)) (hx : ev σ x = some (.slice a 0 c)) (hP : appOk P t e size bytes = true)
    (hK : K (.slice none 0 0) w) : OpTo P n σ o w K := by
  obtain ⟨i, z, hu, hi, hz, hsize, hby, hzs⟩ := appOk_run hP
  refine opTo_run (w' := w) (v := .slice none 0 0) (fun ac ha => ?_) hK
  have hr : (Builtin.append_ #[t, t] o.type #[.slice none 0 0, .slice a 0 c]).run P w = .ok (.slice none 0 0) w := by
    cases a <;> simp [Builtin.append_, run_underlying hu, sizeOf, typeInfo, hi, Builtin.lenOf, Builtin.firstCells, loadCells, loadCellsFrom]
  simp [execOp, ho, resolve, invoke, builtin, ha.eval hs, ha.eval hx, hr]

theorem built_prog (a b : Option Addr) (m c m' c' : Nat) : Try.prog.built 25 [(0, .slice a m c), (1, .slice b m' c')] = some [Value.slice a m c, .slice b m' c'].toArray := by kernel_rfl
def progZ : List Value := [.slice none 0 0, .slice none 0 0]
theorem zero_prog : ((Try.prog.info? 25).bind (·.zero)).map (·.cells) = some progZ.toArray := by kernel_rfl

theorem vars_flat {F : Nat → Prop} {w : World} {b q cap : Nat} {vs : List VarT} (h : VarsV F w (.slice (some ⟨b, q, none⟩) vs.length cap) vs) : w.rangeAt b q (vs.flatMap vcell) := by
  intro j u hu
  obtain ⟨p, h1, h2⟩ := flat_get (k := 2) (by decide) (fun p _ => rfl) hu
  obtain ⟨b', q', cap', hv, _, hr⟩ := h.at h1
  cases hv
  have := hr (j % 2) u h2
  rwa [show q + j / 2 * 2 + j % 2 = q + j by omega] at this

theorem Own_ret {F : Nat → Prop} {w : World} {x : Value} {vs : List VarT} {body : List ST} (h : ProgV F w x vs body) (hF : In F w) (h30 : vs.length ≤ 30) (hsz : szSs body ≤ 1000) :
    Ret Try.prog 8 [x] w fun r w' => (∃ vv bv g ts B1, r = .agg #[vv, bv] ∧ VarsV (fun b => w.heap.size ≤ b ∧ b < B1) w' vv vs ∧ AStmtsV w' bv g ts ∧ erSs ts = body ∧ (∀ b, hit g b ts.length + sSs b ts ≤ 1) ∧ (∀ b, xSs b ts ≤ 1) ∧
      (∀ b, b < B1 → hit g b ts.length + sSs b ts = 0 ∧ xSs b ts = 0) ∧ w.heap.size ≤ B1 ∧ B1 ≤ w'.heap.size) ∧ Keep [] w w' := by
  obtain ⟨vv, bv, rfl, hv, hb⟩ := h
  obtain ⟨av, capv, rfl⟩ := hv.form
  obtain ⟨ab, capb, rfl⟩ := hb.form
  refine ret_of 12 Try.func8 rfl rfl (by simp) ?_
  refine au ?_
  refine pl_op rfl rfl (opTo_boxN [.slice av vs.length capv, .slice ab body.length capb] rfl rfl rfl ?_)
  intro w1 b1 hb1 hs1 hk1 hB1
  refine pl_op rfl rfl (opTo_allocN _ rfl zero_prog ?_)
  intro w2 b2 hb2 hs2 hk2 hB2
  have hkw2 := hk1.tr hk2
  refine au ?_
  refine rn_draw (fun w' => Keep [] w2 w' ∧ Blk w' b1 [.slice av vs.length capv, .slice ab body.length capb] 25) [8] hMix ?_
  have hS : Keep [] w2 w2.drew ∧ Blk w2.drew b1 [.slice av vs.length capv, .slice ab body.length capb] 25 := ⟨(Keep.refl _ _).drew, (hk2.blk hB1 (by simp)).drew⟩
  generalize w2.drew = w3 at *
  refine dp 0 ?_
  refine dp 1 ?_
  refine dp 2 ?_
  refine dp 4 ?_
  refine dp 5 ?_
  refine dr_with 3 63 (fun σ' w' => ∃ vv, VarsV (fun b => b2 + 1 ≤ b ∧ b < w'.heap.size) w' vv vs ∧ (∃ a m c, vv = .slice a m c) ∧ (Keep [] w2 w' ∧ Blk w' b1 [.slice av vs.length capv, .slice ab body.length capb] 25) ∧ Sub [(2, .pointer (some ⟨b2, 0, none⟩)), (7, vv), (9, .slice ab body.length capb)] σ') ?_ ?_
  · rintro σ' w5 ⟨vv, hvv, ⟨a, m, c, rfl⟩, hS5, hsub⟩
    refine dr_sub hsub ?_
    refine dr_op 6 rfl (by decide +kernel) rfl rfl (opTo_call rfl rfl rfl rfl (by decide +kernel) ((ownList_ret _ body (Nat.lt_succ_self _) hsz (hb.keep (hkw2.tr hS5.1) hF.stays) (hF.keep (hkw2.tr hS5.1))).mono ?_))
    rintro v6 w6 ⟨⟨g, ts, hA, her, hC, hX⟩, hk6⟩
    refine ⟨fun _ => ⟨hS5.1.tr hk6, hk6.blk hS5.2 (by simp)⟩, ?_⟩
    obtain ⟨a', cap', rfl⟩ := hA.form
    refine dr_any 7 _ rfl (by decide +kernel) rfl rfl (fun w => val_build _ rfl rfl (built_prog _ _ _ _ _ _) w) ?_
    refine dr_op 8 rfl (by decide +kernel) rfl rfl (opTo_storeN _ rfl rfl rfl rfl (by kernel_rfl) ((hS5.1.tr hk6).blk hB2 (by simp)) (by simp [progZ]) (by intro u hu; simp at hu; rcases hu with rfl | rfl <;> rfl) ?_)
    intro w7 hs7 hk7 hB27
    refine ⟨fun h => absurd h (by simp), ?_⟩
    refine dr_done (by decide +kernel) ?_
    rw [splice_whole (by rfl)] at hB27
    have hb2w : w.heap.size ≤ b2 := by omega
    have hb2l : b2 < w5.heap.size := by have := hS5.1.size; omega
    refine rn_ret Try.func8 (.inr (.inr (.inl ⟨_, _, _, rfl, rfl, blk_loadVar hT hB27 rfl⟩))) ⟨⟨_, _, g, ts, w5.heap.size, rfl, ?_, hA.keepBut hk7 ?_ ?_ (hX.out b2 (.inl hb2l)), her, hC.one, hX.one, fun b hb => ⟨hC.out b (.inl hb), hX.out b (.inl hb)⟩, by omega, by have := hk6.size; omega⟩, ((hkw2.tr hS5.1).tr hk6).trB hk7 hb2w⟩
    · exact ((hvv.keep hk6 (fun k hk => ⟨hk.2, by simp⟩)).keep hk7 (fun k hk => ⟨by have := hk6.size; omega, by simp; omega⟩)).mono fun b hb => ⟨by omega, hb.2⟩
    · have := hC.out b2 (.inl hb2l); omega
    · have := hC.out b2 (.inl hb2l); omega
  intro fin
  have hkw3 := hkw2.tr hS.1
  rcases Nat.eq_zero_or_pos vs.length with h0 | h0
  · have hn : vs = [] := List.eq_nil_of_length_eq_zero h0
    subst hn
    refine dr_op 3 rfl (by decide +kernel) rfl rfl (opTo_app0 51 2 24 rfl rfl rfl (by decide +kernel) ⟨fun _ => hS, ?_⟩)
    exact fin _ _ ⟨_, ⟨none, 0, rfl, by simp, fun h => absurd h (by simp)⟩, ⟨_, _, _, rfl⟩, hS, rfl, rfl, rfl, trivial⟩
  · have hv3 := hv.keep hkw3 hF.stays
    have hget : vs[0]? = some vs[0] := List.getElem?_eq_getElem h0
    obtain ⟨bb, q, cap', hvv, _, _⟩ := hv3.at hget
    cases hvv
    have hone : ∀ u ∈ vs.flatMap vcell, u.oneCell' = true := by
      intro u hu
      obtain ⟨y, _, hy⟩ := List.mem_flatMap.1 hu
      exact vcell_one y u hy
    have hfl : (vs.flatMap vcell).length = vs.length * 2 := flat_length fun p _ => rfl
    refine dr_op 3 rfl (by decide +kernel) rfl rfl (opTo_app (b2 + 1) 51 2 24 [] (vs.flatMap vcell) rfl rfl rfl (by decide +kernel) (Own.nil _ _ _ _) (vars_flat hv3) hfl hone h0 (by unfold maxLen; omega) (by omega) (by have := hS.1.size; omega) ?_)
    intro g4 cap4 w4 ho4 hor4
    have hk4 : Keep [] w3 w4 := by
      rcases hor4 with ⟨h, _⟩ | ⟨_, h, _⟩
      · cases h
      · exact h
    have hS4 := And.intro (hS.1.tr hk4) (hk4.blk hS.2 (by simp))
    refine ⟨fun _ => hS4, ?_⟩
    have hvv : VarsV (fun b => b2 + 1 ≤ b ∧ b < w4.heap.size) w4 (.slice (some ⟨g4, 0, none⟩) (0 + vs.length) cap4) vs := by
      rw [Nat.zero_add, List.nil_append] at ho4
      rw [Nat.zero_add]
      exact vars_of_own ho4
    exact fin _ _ ⟨_, hvv, ⟨_, _, _, rfl⟩, hS4, rfl, rfl, rfl, trivial⟩
end E
end Go.Proofs.Ytcgigfnbjmlhhad

/- Contracts of the document's looking: bad, head, variable, expr. -/
namespace Go.Proofs.Ytcgigfnbjmlhhad
set_option maxRecDepth 20000
set_option maxHeartbeats 4000000
namespace E
open Go.Proofs

abbrev tLk : Nat := 64
def lkC (a b : Value) (n : Nat) (c : Int) : List Value := [a, b, .int .i64 (n : Nat), .int .i64 c]
def badC (is : Bool) (c cd : Int) : Int := if is = true ∧ c = 0 then cd else c

section
variable {w : World} {j n : Nat} {a b : Value} {c : Int}

theorem bad_ret (h : Blk w j (lkC a b n c) tLk) (is : Bool) (cd : Int) :
    Ret Try.prog 32 [.pointer (some ⟨j, 0, none⟩), .bool is, .int .i64 cd] w fun r w' => r = .tuple #[] ∧ Blk w' j (lkC a b n (badC is c cd)) tLk ∧ Keep [j] w w' := by
  refine ret_of 18 Try.func32 rfl rfl (by simp) ?_
  have h' := h
  unfold lkC at h'
  cases is with
  | false =>
    refine au ?_
    refine rn_end Try.func32 (.inr (.inl ⟨rfl, rfl⟩)) ⟨rfl, ?_, Keep.refl _ _⟩
    simpa [badC] using h
  | true =>
    by_cases hc : c = 0
    · refine aub ?_
      refine pl_op rfl rfl (opTo_storeN [.int .i64 cd] rfl rfl rfl rfl (by kernel_rfl) h' (by simp) (by simp; rfl) ?_)
      intro w1 hs1 hk1 hB1
      refine au ?_
      refine rn_end Try.func32 (.inr (.inl ⟨rfl, rfl⟩)) ⟨rfl, ?_, hk1⟩
      have e : badC true c cd = cd := by simp [badC, hc]
      rw [e]
      exact hB1
    · refine aub ?_
      refine rn_end Try.func32 (.inr (.inl ⟨rfl, rfl⟩)) ⟨rfl, ?_, Keep.refl _ _⟩
      have e : badC true c cd = c := by simp [badC, hc]
      rw [e]
      exact h

theorem head_ret (h : Blk w j (lkC a b n c) tLk) (deep : Int) (hn : n ≤ 100000) :
    Ret Try.prog 31 [.pointer (some ⟨j, 0, none⟩), .int .i64 deep] w fun r w' => r = .tuple #[] ∧ Blk w' j (lkC a b (n + 1) (badC (decide (n + 1 > 150)) (badC (decide (deep > 12)) c 4) 3)) tLk ∧ Keep [j] w w' := by
  refine ret_of 22 Try.func31 rfl rfl (by simp) ?_
  have h' := h
  unfold lkC at h'
  refine aub ?_
  refine pl_num (((n + 1 : Nat) : Int)) rfl rfl rfl rfl rfl (by simp only [ariP]; omega) ?_
  refine au ?_
  refine pl_op rfl rfl (opTo_storeN [.int .i64 ((n + 1 : Nat) : Int)] rfl rfl rfl rfl (by kernel_rfl) h' (by simp) (by simp; rfl) ?_)
  intro w1 hs1 hk1 hB1
  have hB1' : Blk w1 j (lkC a b (n + 1) c) tLk := hB1
  refine au ?_
  refine pl_val (.bool (decide (deep > 12))) rfl rfl (val_int .i64 _ _ _ rfl rfl rfl (by rfl) w1) ?_
  refine pl_op rfl rfl (opTo_call rfl rfl rfl rfl (by decide +kernel) ((bad_ret hB1' (decide (deep > 12)) 4).mono ?_))
  rintro v2 w2 ⟨rfl, hB2, hk2⟩
  have hB2' := hB2
  unfold lkC at hB2'
  refine au ?_
  refine pl_val _ rfl rfl (val_load1 hT rfl rfl rfl (hB2'.cell rfl)) ?_
  refine pl_val (.bool (decide (n + 1 > 150))) rfl rfl (val_int .i64 _ _ _ rfl rfl rfl (by simp only [intOp]; congr 2; simp; omega) w2) ?_
  refine pl_op rfl rfl (opTo_call rfl rfl rfl rfl (by decide +kernel) ((bad_ret hB2 (decide (n + 1 > 150)) 3).mono ?_))
  rintro v3 w3 ⟨rfl, hB3, hk3⟩
  refine au ?_
  exact rn_end Try.func31 (.inr (.inl ⟨rfl, rfl⟩)) ⟨rfl, hB3, (hk1.tr hk2).tr hk3⟩

def varC (nv : Nat) (v : Int) (has : Bool) (c : Int) : Int := if has then badC (decide (v < 0 ∨ v ≥ (nv : Int))) c 1 else badC (decide (v ≠ 0)) c 5

theorem variable_ret {av : Option Addr} {nv capv : Nat} (h : Blk w j (lkC (.slice av nv capv) b n c) tLk) (v : Int) (has : Bool) :
    Ret Try.prog 35 [.pointer (some ⟨j, 0, none⟩), .int .i64 v, .bool has] w fun r w' => r = .tuple #[] ∧ Blk w' j (lkC (.slice av nv capv) b n (varC nv v has c)) tLk ∧ Keep [j] w w' := by
  refine ret_of 25 Try.func35 rfl rfl (by simp) ?_
  have h' := h
  unfold lkC at h'
  cases has with
  | true =>
    by_cases h1 : v < 0
    · refine aub ?_
      refine pl_op rfl rfl (opTo_call rfl rfl rfl rfl (by decide +kernel) ((bad_ret h true 1).mono ?_))
      rintro v2 w2 ⟨rfl, hB2, hk2⟩
      refine au ?_
      refine rn_end Try.func35 (.inr (.inl ⟨rfl, rfl⟩)) ⟨rfl, ?_, hk2⟩
      have e : varC nv v true c = badC true c 1 := by simp [varC, h1]
      rw [e]
      exact hB2
    · refine aub ?_
      refine pl_val (.bool (decide (v ≥ (nv : Int)))) rfl rfl (val_int .i64 _ _ _ rfl rfl rfl (by rfl) w) ?_
      refine au ?_
      refine pl_op rfl rfl (opTo_call rfl rfl rfl rfl (by decide +kernel) ((bad_ret h (decide (v ≥ (nv : Int))) 1).mono ?_))
      rintro v2 w2 ⟨rfl, hB2, hk2⟩
      refine au ?_
      refine rn_end Try.func35 (.inr (.inl ⟨rfl, rfl⟩)) ⟨rfl, ?_, hk2⟩
      have e : varC nv v true c = badC (decide (v ≥ (nv : Int))) c 1 := by simp [varC, h1]
      rw [e]
      exact hB2
  | false =>
    refine au ?_
    refine pl_val (.bool (decide (v ≠ 0))) rfl rfl (val_int .i64 _ _ _ rfl rfl rfl (by simp only [intOp]; congr 2; rw [Bool.eq_iff_iff]; simp) w) ?_
    refine pl_op rfl rfl (opTo_call rfl rfl rfl rfl (by decide +kernel) ((bad_ret h (decide (v ≠ 0)) 5).mono ?_))
    rintro v2 w2 ⟨rfl, hB2, hk2⟩
    refine au ?_
    exact rn_end Try.func35 (.inr (.inl ⟨rfl, rfl⟩)) ⟨rfl, hB2, hk2⟩
end

/-- From how many parts, and which code, to how many and which, by a check. -/
def Tr (x : Nat → Except Int Nat) (n : Nat) (c : Int) (n' : Nat) (c' : Int) : Prop :=
  (c ≠ 0 → n' = n ∧ c' = c) ∧ (c = 0 → (∀ q, x n = .ok q → n' = q ∧ c' = 0) ∧ ∀ e, x n = .error e → c' = e) ∧ n' ≤ 151 ∧ (c' = 0 → n' ≤ 150)
theorem Tr.id {n : Nat} {c : Int} (h : n ≤ 151) (h0 : c = 0 → n ≤ 150) : Tr (fun k => .ok k) n c n c := ⟨fun _ => ⟨rfl, rfl⟩, fun hc => ⟨fun q hq => by injection hq with hq; exact ⟨hq, hc⟩, fun e he => by cases he⟩, h, h0⟩
theorem Tr.seq {x y : Nat → Except Int Nat} {n n1 n2 : Nat} {c c1 c2 : Int} (h1 : Tr x n c n1 c1) (hx : Coded (x n)) (h2 : Tr y n1 c1 n2 c2) : Tr (fun k => nextK (x k) y) n c n2 c2 := by
  refine ⟨fun hc => ?_, fun hc => ?_, h2.2.2⟩
  · obtain ⟨rfl, rfl⟩ := h1.1 hc
    exact h2.1 hc
  · obtain ⟨ha, hb⟩ := h1.2.1 hc
    cases hxn : x n with
    | error e =>
      have := hb e hxn
      subst this
      obtain ⟨rfl, rfl⟩ := h2.1 (hx _ hxn)
      exact ⟨fun q hq => (by simp only [nextK, hxn] at hq; cases hq), fun e' he => (by simp only [nextK, hxn] at he; injection he)⟩
    | ok k1 =>
      obtain ⟨rfl, rfl⟩ := ha k1 hxn
      have := h2.2.1 rfl
      exact ⟨fun q hq => this.1 q (by simpa only [nextK, hxn] using hq), fun e he => this.2 e (by simpa only [nextK, hxn] using he)⟩

theorem look_chain (nv n : Nat) (deep : Int) (known fits1 fits2 named : Bool) (v : Int) (k2 f1 f2 : Bool) (h1 : k2 = !known) (h2 : (f1 || f2) = !(fits1 && fits2)) :
    varC nv v named (badC f2 (badC f1 (badC k2 (badC (decide (n + 1 > 150)) (badC (decide (deep > 12)) 0 4) 3) 2) 5) 5) = lookK nv n deep known (fits1 && fits2) named v := by
  unfold lookK
  by_cases d : deep > 12
  · have : varC nv v named 4 = 4 := by cases named <;> simp [varC, badC]
    simp [badC, d, this]
  · by_cases m : n + 1 > 150
    · have : varC nv v named 3 = 3 := by cases named <;> simp [varC, badC]
      simp [badC, d, m, this]
    · cases known with
      | false =>
        have : varC nv v named 2 = 2 := by cases named <;> simp [varC, badC]
        subst h1
        simp [badC, d, m, this]
      | true =>
        subst h1
        cases hf : (fits1 && fits2) with
        | false =>
          rw [hf] at h2
          have : varC nv v named 5 = 5 := by cases named <;> simp [varC, badC]
          cases f1 with
          | true => simp [badC, d, m, this]
          | false =>
            simp at h2
            subst h2
            simp [badC, d, m, this]
        | true =>
          rw [hf] at h2
          simp at h2
          obtain ⟨rfl, rfl⟩ := h2
          have : varC nv v named 0 = varK nv v named := by cases named <;> simp [varC, badC, varK]
          simp [badC, d, m, this]

theorem lookExpr_ret {j nv capv : Nat} {av : Option Addr} {b : Value} : ∀ (s : Nat) (t : ET), szE t ≤ s → szE t ≤ 100000 → ∀ {F : Nat → Prop} {w : World} {cs : List Value} (deep n : Nat) (c : Int), ExprV F w cs t → In F w → ¬ F j → Blk w j (lkC (.slice av nv capv) b n c) tLk → deep ≤ 14 → n ≤ 151 → (c = 0 → n ≤ 150) →
    Ret Try.prog 36 [.pointer (some ⟨j, 0, none⟩), .agg cs.toArray, .int .i64 (deep : Nat)] w fun r w' => r = .tuple #[] ∧ (∃ n' c', Blk w' j (lkC (.slice av nv capv) b n' c') tLk ∧ Tr (chkE nv t deep) n c n' c') ∧ Keep [j] w w' := by
  intro s
  induction s with
  | zero => intro t ht; have := szE_pos t; omega
  | succ s ih =>
    intro t ht ht3 F w cs deep n c h hF hFj hJ hdeep hn hn0
    obtain ⟨op, v, nn, l⟩ := t
    obtain ⟨lv, rfl, hl⟩ := h.inv
    obtain ⟨al, capl, rfl⟩ := hl.form
    simp only [szE] at ht ht3
    have hlen := szEs_len l
    refine ret_of 75 Try.func36 rfl rfl (by simp) ?_
    refine au ?_
    refine pl_op rfl rfl (opTo_boxN [.int .i64 op, .int .i64 v, .int .i64 nn, .slice al l.length capl] rfl rfl rfl ?_)
    intro w1 x hx hs1 hk1 hX1
    have hJ1 := hk1.blk hJ (by simp)
    have hJ1' := hJ1
    unfold lkC at hJ1'
    have hxj : x ≠ j := hX1.ne hJ1 (by decide)
    refine au ?_
    refine pl_val _ rfl rfl (val_load1 hT rfl rfl rfl (hJ1'.cell rfl)) ?_
    by_cases hc : c = 0
    · subst hc
      have hn150 := hn0 rfl
      refine nay ?_
      refine au ?_
      refine pl_op rfl rfl (opTo_call rfl rfl rfl rfl (by decide +kernel) ((head_ret hJ1 (deep : Nat) (by omega)).mono ?_))
      rintro v2 w2 ⟨rfl, hJ2, hk2⟩
      have hX2 := hk2.blk hX1 (by simpa using hxj)
      refine au ?_
      refine pl_val _ rfl rfl (val_load1 hT rfl rfl rfl (hX2.cell rfl)) ?_
      refine pl_op rfl rfl (opTo_call rfl rfl rfl rfl (by decide +kernel) ((partsOf_ret op w2).mono ?_))
      rintro v3 w3 ⟨rfl, rfl⟩
      refine au ?_
      refine pl_val (.bool (!knownE op)) rfl rfl (val_int .i64 _ _ _ rfl rfl rfl (by simp only [intOp]; congr 2; unfold knownE; rw [Bool.eq_iff_iff]; simp) w3) ?_
      refine pl_op rfl rfl (opTo_call rfl rfl rfl rfl (by decide +kernel) ((bad_ret hJ2 (!knownE op) 2).mono ?_))
      rintro v4 w4 ⟨rfl, hJ4, hk4⟩
      have hX4 := hk4.blk hX2 (by simpa using hxj)
      refine au ?_
      refine pl_val _ rfl rfl (val_load1 hT rfl rfl rfl (hX4.cell rfl)) ?_
      refine au ?_
      refine pl_val (.bool (!decide ((l.length : Int) = partsOf op))) rfl rfl (val_int .i64 _ _ _ rfl rfl rfl (by simp only [intOp]; congr 2; rw [Bool.eq_iff_iff]; simp; omega) w4) ?_
      refine pl_op rfl rfl (opTo_call rfl rfl rfl rfl (by decide +kernel) ((bad_ret hJ4 (!decide ((l.length : Int) = partsOf op)) 5).mono ?_))
      rintro v5 w5 ⟨rfl, hJ5, hk5⟩
      have hX5 := hk5.blk hX4 (by simpa using hxj)
      refine pl_nil ?_
      refine rn_seq ?_
      refine rn_with (fun σ' w' => ∃ c6, c6 = badC (!(op == 1 || nn == 0)) (badC (!decide ((l.length : Int) = partsOf op)) (badC (!knownE op) (badC (decide (n + 1 > 150)) (badC (decide ((deep : Int) > 12)) 0 4) 3) 2) 5) 5 ∧ Blk w' j (lkC (.slice av nv capv) b (n + 1) c6) tLk ∧ Blk w' x [.int .i64 op, .int .i64 v, .int .i64 nn, .slice al l.length capl] 47 ∧ Keep [j] w w' ∧ Sub [(0, .pointer (some ⟨j, 0, none⟩)), (2, .int .i64 (deep : Nat)), (4, .pointer (some ⟨x, 0, none⟩))] σ') ?_ ?_
      · rintro σ' w6 ⟨c6, hc6, hJ6, hX6, hk6, hsub⟩
        refine rn_sub hsub ?_
        refine rn_seq ?_
        refine rn_with (fun σ' w' => ∃ c7, c7 = varC nv v (namedE op) c6 ∧ Blk w' j (lkC (.slice av nv capv) b (n + 1) c7) tLk ∧ Blk w' x [.int .i64 op, .int .i64 v, .int .i64 nn, .slice al l.length capl] 47 ∧ Keep [j] w w' ∧ Sub [(0, .pointer (some ⟨j, 0, none⟩)), (2, .int .i64 (deep : Nat)), (4, .pointer (some ⟨x, 0, none⟩))] σ') ?_ ?_
        · rintro σ' w7 ⟨c7, hc7, hJ7, hX7, hk7, hsub⟩
          refine rn_sub hsub ?_
          have hck : c7 = lookK nv n (deep : Nat) (knownE op) (fitsE op nn l.length) (namedE op) v := by
            rw [hc7, hc6]
            exact look_chain nv n (deep : Nat) (knownE op) (decide ((l.length : Int) = partsOf op)) (op == 1 || nn == 0) (namedE op) v _ _ _ rfl (by cases decide ((l.length : Int) = partsOf op) <;> cases (op == 1 || nn == 0) <;> rfl)
          clear hc6 hc7 hJ1 hJ1' hJ2 hJ4 hJ5 hX1 hX2 hX4 hX5 hk2 hk4 hk5
          refine au ?_
          refine rn_ind (fun m σ w' => ∃ (i ni : Nat) (ci : Int), i ≤ l.length ∧ m = l.length - i ∧ σ = [(0, .pointer (some ⟨j, 0, none⟩)), (2, .int .i64 (deep : Nat)), (4, .pointer (some ⟨x, 0, none⟩)), (7, .int .i64 (i : Nat))] ∧ Blk w' j (lkC (.slice av nv capv) b ni ci) tLk ∧ Blk w' x [.int .i64 op, .int .i64 v, .int .i64 nn, .slice al l.length capl] 47 ∧ Keep [j] w w' ∧
            ni ≤ 151 ∧ ((ci = 0 ∧ c7 = 0 ∧ ni ≤ 150 ∧ chkEs nv (l.take i) (deep + 1) (n + 1) = .ok ni) ∨ (ci ≠ 0 ∧ chkE nv (.mk op v nn l) deep n = .error ci))) l.length _ ?_ ⟨0, n + 1, c7, by omega, by omega, rfl, hJ7, hX7, hk7, by omega, ?_⟩ ?_
          · exact ⟨rfl, rfl, rfl, rfl, trivial⟩
          · by_cases hz : c7 = 0
            · have := look_room (hck.symm.trans hz)
              exact .inl ⟨hz, hz, by omega, by simp [chkEs]⟩
            · refine .inr ⟨hz, ?_⟩
              rw [chkE_look, ← hck, if_pos hz]
          clear hJ7 hX7 hk7
          rintro m σ w8 ih2 ⟨i, ni, ci, hi, rfl, rfl, hJ8, hX8, hk8, hni, hor⟩
          have hJ8' := hJ8
          unfold lkC at hJ8'
          refine au ?_
          refine pl_val _ rfl rfl (val_load1 hT rfl rfl rfl (hX8.cell rfl)) ?_
          refine au ?_
          by_cases hlt : i < l.length
          · rcases hor with ⟨hci, hc70, hni150, hch⟩ | ⟨hci, hch⟩
            · subst hci
              have hroom := look_room (hck.symm.trans hc70)
              have hget : l[i]? = some l[i] := List.getElem?_eq_getElem hlt
              have hsz := szEs_at hget
              have hat := chkEs_at hget hch
              obtain ⟨bb, q, _, cj, hvv, _, hra, hcj⟩ := (hl.keep hk8 (stays_but hF hFj)).at hget
              cases hvv
              refine aub ?_
              refine pl_val _ rfl rfl (val_index i hT rfl rfl rfl rfl rfl hlt w8) ?_
              refine pl_val (.agg cj.toArray) rfl rfl (val_load cj hT rfl rfl (by rw [hcj.length]; rfl) hra) ?_
              refine au ?_
              refine pl_num (((deep + 1 : Nat) : Int)) rfl rfl rfl rfl rfl (by simp only [ariP]; omega) ?_
              refine pl_op rfl rfl (opTo_call rfl rfl rfl rfl (by decide +kernel) ((ih l[i] (by omega) (by omega) (deep + 1) ni 0 hcj (hF.keep hk8) hFj hJ8 (by omega) hni (fun _ => hni150)).mono ?_))
              rintro v9 w9 ⟨rfl, ⟨n9, c9, hJ9, htr9⟩, hk9⟩
              have hX9 := hk9.blk hX8 (by simpa using hxj)
              refine au ?_
              refine pl_num (((i + 1 : Nat) : Int)) rfl rfl rfl rfl rfl (by simp only [ariP]; omega) ?_
              refine au ?_
              refine rn_sub ?_ (ih2 (l.length - (i + 1)) [(0, .pointer (some ⟨j, 0, none⟩)), (2, .int .i64 (deep : Nat)), (4, .pointer (some ⟨x, 0, none⟩)), (7, .int .i64 ((i + 1 : Nat) : Int))] w9 (by omega)
                ⟨i + 1, n9, c9, by omega, rfl, rfl, hJ9, hX9, hk8.tr hk9, htr9.2.2.1, ?_⟩)
              · exact ⟨rfl, rfl, rfl, rfl, trivial⟩
              · have ht := htr9.2.1 rfl
                cases hx9 : chkE nv l[i] (deep + 1) ni with
                | ok q =>
                  obtain ⟨rfl, rfl⟩ := ht.1 q hx9
                  exact .inl ⟨rfl, hc70, htr9.2.2.2 rfl, by rw [hat.1, hx9]⟩
                | error e =>
                  have := ht.2 e hx9
                  subst this
                  refine .inr ⟨codedE nv _ _ _ _ hx9, ?_⟩
                  rw [chkE_look, ← hck, if_neg (by simp [hc70])]
                  exact hat.2 _ hx9
            · refine aub ?_
              refine rn_end Try.func36 (.inr (.inl ⟨rfl, rfl⟩)) ⟨rfl, ⟨ni, ci, hJ8, ?_⟩, hk8⟩
              exact ⟨fun h => absurd rfl h, fun _ => ⟨fun q hq => (by rw [hch] at hq; cases hq), fun e he => (by rw [hch] at he; injection he)⟩, hni, fun h => absurd h hci⟩
          · refine nay ?_
            refine au ?_
            refine rn_end Try.func36 (.inr (.inl ⟨rfl, rfl⟩)) ⟨rfl, ⟨ni, ci, hJ8, ?_⟩, hk8⟩
            rcases hor with ⟨hci, hc70, hni150, hch⟩ | ⟨hci, hch⟩
            · rw [List.take_of_length_le (by omega)] at hch
              have hE : chkE nv (.mk op v nn l) deep n = .ok ni := by rw [chkE_look, ← hck, if_neg (by simp [hc70])]; exact hch
              exact ⟨fun h => absurd rfl h, fun _ => ⟨fun q hq => (by rw [hE] at hq; injection hq with hq; exact ⟨hq, hci⟩), fun e he => (by rw [hE] at he; cases he)⟩, hni, fun _ => hni150⟩
            · exact ⟨fun h => absurd rfl h, fun _ => ⟨fun q hq => (by rw [hch] at hq; cases hq), fun e he => (by rw [hch] at he; injection he)⟩, hni, fun h => absurd h hci⟩
        · intro fin7
          by_cases h2 : op = 2
          · refine aub ?_
            refine pl_op rfl rfl (opTo_call rfl rfl rfl rfl (by decide +kernel) ((variable_ret hJ6 v true).mono ?_))
            rintro v7 w7 ⟨rfl, hJ7, hk7⟩
            refine pl_nil ?_
            exact fin7 _ _ ⟨_, by simp [namedE, h2], hJ7, hk7.blk hX6 (by simpa using hxj), hk6.tr hk7, rfl, rfl, rfl, trivial⟩
          · refine aub ?_
            refine pl_val (.bool (namedE op)) rfl rfl (val_int .i64 _ _ _ rfl rfl rfl (by simp [intOp, namedE, h2]) w6) ?_
            refine au ?_
            refine pl_op rfl rfl (opTo_call rfl rfl rfl rfl (by decide +kernel) ((variable_ret hJ6 v (namedE op)).mono ?_))
            rintro v7 w7 ⟨rfl, hJ7, hk7⟩
            refine pl_nil ?_
            exact fin7 _ _ ⟨_, rfl, hJ7, hk7.blk hX6 (by simpa using hxj), hk6.tr hk7, rfl, rfl, rfl, trivial⟩
      · intro fin6
        have hk5w : Keep [j] w w5 := (((Keep.of0 hk1).tr hk2).tr hk4).tr hk5
        by_cases h1 : op = 1
        · refine aub ?_
          refine pl_op rfl rfl (opTo_call rfl rfl rfl rfl (by decide +kernel) ((bad_ret hJ5 false 5).mono ?_))
          rintro v6 w6 ⟨rfl, hJ6, hk6⟩
          refine pl_nil ?_
          exact fin6 _ _ ⟨_, by simp [h1], hJ6, hk6.blk hX5 (by simpa using hxj), hk5w.tr hk6, rfl, rfl, rfl, trivial⟩
        · refine aub ?_
          refine pl_val (.bool (!(op == 1 || nn == 0))) rfl rfl (val_int .i64 _ _ _ rfl rfl rfl (by simp only [intOp]; congr 2; rw [Bool.eq_iff_iff]; simp [h1]) w5) ?_
          refine au ?_
          refine pl_op rfl rfl (opTo_call rfl rfl rfl rfl (by decide +kernel) ((bad_ret hJ5 (!(op == 1 || nn == 0)) 5).mono ?_))
          rintro v6 w6 ⟨rfl, hJ6, hk6⟩
          refine pl_nil ?_
          exact fin6 _ _ ⟨_, rfl, hJ6, hk6.blk hX5 (by simpa using hxj), hk5w.tr hk6, rfl, rfl, rfl, trivial⟩
    · refine ye ?_
      refine au ?_
      refine rn_ret Try.func36 (.inr (.inl ⟨rfl, rfl⟩)) ⟨rfl, ⟨n, c, hJ1, ?_⟩, Keep.of0 hk1⟩
      exact ⟨fun _ => ⟨rfl, rfl⟩, fun h => absurd h hc, hn, hn0⟩
end E
end Go.Proofs.Ytcgigfnbjmlhhad

/- Contracts of the document's looking at statements, and of ProgramFault. -/
namespace Go.Proofs.Ytcgigfnbjmlhhad
set_option maxRecDepth 20000
set_option maxHeartbeats 4000000
namespace E
open Go.Proofs

def x1 (op : Int) (e f : ET) : Bool := (needE op || zeroE e) && (needF op || zeroE f)
def x2 (op : Int) (lb lo : Nat) : Bool := (needB op || (lb : Int) == 0) && (needO op || (lo : Int) == 0)
theorem fits_x (op : Int) (e f : ET) (lb lo : Nat) : fitsS op e f lb lo = (x1 op e f && x2 op lb lo) := by
  unfold fitsS x1 x2
  cases needE op <;> cases zeroE e <;> cases needF op <;> cases zeroE f <;> cases needB op <;> cases ((lb : Int) == 0) <;> cases needO op <;> cases ((lo : Int) == 0) <;> rfl

/-- A statement in its box, and the looking beside it. -/
structure Lk (F : Nat → Prop) (w0 w : World) (j x nv capv : Nat) (av : Option Addr) (b : Value) (n : Nat) (c : Int) (sc : List Value) : Prop where
  hj : Blk w j (lkC (.slice av nv capv) b n c) tLk
  hx : Blk w x sc 49
  hk : Keep [j] w0 w

section
variable {F : Nat → Prop} {w0 w w' : World} {j x nv capv : Nat} {av : Option Addr} {b : Value} {n n' : Nat} {c c' : Int} {sc : List Value}
theorem Lk.turn (h : Lk F w0 w j x nv capv av b n c sc) (hj : Blk w' j (lkC (.slice av nv capv) b n' c') tLk) (hk : Keep [j] w w') : Lk F w0 w' j x nv capv av b n' c' sc :=
  ⟨hj, hk.blk h.hx (by simpa using h.hx.ne h.hj (by decide)), h.hk.tr hk⟩
theorem Lk.keep (h : Lk F w0 w j x nv capv av b n c sc) (hk : Keep [] w w') : Lk F w0 w' j x nv capv av b n c sc :=
  ⟨hk.blk h.hj (by simp), hk.blk h.hx (by simp), h.hk.tr (Keep.of0 hk)⟩
end

theorem lookList_ret {j nv capv : Nat} {av : Option Addr} {b : Value} : ∀ (s : Nat) (l : List ST), szSs l < s → szSs l ≤ 100000 → ∀ {F : Nat → Prop} {w : World} {xl : Value} (deep n : Nat) (c : Int), StmtsV F w xl l → In F w → ¬ F j → Blk w j (lkC (.slice av nv capv) b n c) tLk → (deep ≤ 13 ∨ (c ≠ 0 ∧ deep ≤ 14)) → n ≤ 151 → (c = 0 → n ≤ 150) →
    Ret Try.prog 21 [.pointer (some ⟨j, 0, none⟩), xl, .int .i64 (deep : Nat)] w fun r w' => r = .tuple #[] ∧ (∃ n' c', Blk w' j (lkC (.slice av nv capv) b n' c') tLk ∧ Tr (chkSs nv l deep) n c n' c') ∧ Keep [j] w w' := by
  intro s
  induction s with
  | zero => intro l hl; omega
  | succ s ih =>
    intro l hl hl3 F w xl deep n c h hF hFj hJ hdeep hn hn0
    obtain ⟨a, cap, rfl⟩ := h.form
    have hlen := szSs_len l
    refine ret_of 123 Try.func21 rfl rfl (by simp) ?_
    refine au ?_
    refine rn_ind (fun m σ w' => ∃ (i ni : Nat) (ci : Int), i ≤ l.length ∧ m = l.length - i ∧ σ = [(0, .pointer (some ⟨j, 0, none⟩)), (1, .slice a l.length cap), (2, .int .i64 (deep : Nat)), (6, .int .i64 (i : Nat))] ∧ Blk w' j (lkC (.slice av nv capv) b ni ci) tLk ∧ Keep [j] w w' ∧ ni ≤ 151 ∧ (ci = 0 → ni ≤ 150) ∧
      ((c = 0 ∧ ci = 0 ∧ chkSs nv (l.take i) deep n = .ok ni) ∨ (ci ≠ 0 ∧ ((c = 0 ∧ chkSs nv l deep n = .error ci) ∨ (c ≠ 0 ∧ ni = n ∧ ci = c))))) l.length _ ?_ ⟨0, n, c, by omega, by omega, rfl, hJ, Keep.refl _ _, hn, hn0, ?_⟩ ?_
    · exact ⟨rfl, rfl, rfl, rfl, trivial⟩
    · by_cases hc : c = 0
      · exact .inl ⟨hc, hc, by simp [chkSs]⟩
      · exact .inr ⟨hc, .inr ⟨hc, rfl, rfl⟩⟩
    rintro m σ w2 ih2 ⟨i, ni, ci, hi, rfl, rfl, hJ2, hk2, hni, hni0, hor⟩
    have hJ2' := hJ2
    unfold lkC at hJ2'
    have hend : (i = l.length ∨ ci ≠ 0) → Tr (chkSs nv l deep) n c ni ci := by
      intro hx
      rcases hor with ⟨hc, hci, hch⟩ | ⟨hci, hr⟩
      · have hil : i = l.length := by
          rcases hx with hx | hx
          · exact hx
          · exact absurd hci hx
        rw [hil, List.take_length] at hch
        exact ⟨fun h => absurd hc h, fun _ => ⟨fun q hq => (by rw [hch] at hq; injection hq with hq; exact ⟨hq, hci⟩), fun e he => (by rw [hch] at he; cases he)⟩, hni, hni0⟩
      · rcases hr with ⟨hc, hch⟩ | ⟨hc, h1, h2⟩
        · exact ⟨fun h => absurd hc h, fun _ => ⟨fun q hq => (by rw [hch] at hq; cases hq), fun e he => (by rw [hch] at he; injection he)⟩, hni, hni0⟩
        · exact ⟨fun _ => ⟨h1, h2⟩, fun h => absurd h hc, hni, hni0⟩
    refine au ?_
    by_cases hlt : i < l.length
    · by_cases hcz : ci = 0
      · subst hcz
        obtain ⟨hc0, hch⟩ : c = 0 ∧ chkSs nv (l.take i) deep n = .ok ni := by
          rcases hor with ⟨hc, _, hch⟩ | ⟨hci, _⟩
          · exact ⟨hc, hch⟩
          · exact absurd rfl hci
        have hni150 := hni0 rfl
        have hd13 : deep ≤ 13 := hdeep.elim id fun h => absurd hc0 h.1
        clear hend hor hdeep hn0
        have hget : l[i]? = some l[i] := List.getElem?_eq_getElem hlt
        have hsz := szSs_at hget
        obtain ⟨op, v, e, f, lb, lo, hs⟩ : ∃ op v e f lb lo, l[i] = ST.mk op v e f lb lo := by cases l[i]; exact ⟨_, _, _, _, _, _, rfl⟩
        rw [hs] at hget hsz
        simp only [szS] at hsz
        have hat := chkSs_at hget hch
        obtain ⟨bb, q, cap', ce, cf, bv, ov, hvv, hst⟩ := (h.keep hk2 (stays_but hF hFj)).stmtAt hget
        cases hvv
        have hF2 := hF.keep hk2
        obtain ⟨e0, e1, e2, e3, rfl⟩ := list4 hst.he.length
        obtain ⟨f0, f1, f2, f3, rfl⟩ := list4 hst.hf.length
        obtain ⟨ab, capb, rfl⟩ := hst.hb.form
        obtain ⟨ao, capo, rfl⟩ := hst.ho.form
        refine aub ?_
        refine pl_val _ rfl rfl (val_index i hT rfl rfl rfl rfl rfl hlt w2) ?_
        refine pl_val _ rfl rfl (val_load [.int .i64 op, .int .i64 v, e0, e1, e2, e3, f0, f1, f2, f3, .slice ab lb.length capb, .slice ao lo.length capo] hT rfl rfl rfl hst.whole) ?_
        refine pl_op rfl rfl (opTo_allocN _ rfl zero_stmt ?_)
        intro w3 x hx3 hs3 hk3 hX3
        refine pl_op rfl rfl (opTo_storeN _ rfl rfl rfl rfl (by kernel_rfl) hX3 (by simp [stmtZ]) hst.stmt.one ?_)
        intro w4 hs4 hk4 hX4
        rw [splice_whole (by rfl)] at hX4
        have hk24 : Keep [] w2 w4 := hk3.trB hk4 (by omega)
        have hL4 : Lk F w2 w4 j x nv capv av b ni 0 [.int .i64 op, .int .i64 v, e0, e1, e2, e3, f0, f1, f2, f3, .slice ab lb.length capb, .slice ao lo.length capo] := ⟨hk24.blk hJ2 (by simp), hX4, Keep.of0 hk24⟩
        clear hk3 hk4 hX3 hX4 hk24
        refine au ?_
        refine pl_op rfl rfl (opTo_call rfl rfl rfl rfl (by decide +kernel) ((head_ret hL4.hj (deep : Nat) (by omega)).mono ?_))
        rintro v5 w5 ⟨rfl, hJ5, hk5⟩
        have hL5 := hL4.turn hJ5 hk5
        have hst2 := stays_but hF2 hFj
        refine pl_nil ?_
        refine rn_seq ?_
        refine rn_with (fun σ' w' => ∃ c6, c6 = badC (!knownS op) (badC (decide (ni + 1 > 150)) (badC (decide ((deep : Int) > 12)) 0 4) 3) 2 ∧ Lk F w2 w' j x nv capv av b (ni + 1) c6 [.int .i64 op, .int .i64 v, e0, e1, e2, e3, f0, f1, f2, f3, .slice ab lb.length capb, .slice ao lo.length capo] ∧ Sub [(0, .pointer (some ⟨j, 0, none⟩)), (1, .slice (some ⟨bb, q, none⟩) l.length cap), (2, .int .i64 (deep : Nat)), (6, .int .i64 (i : Nat)), (7, .pointer (some ⟨x, 0, none⟩))] σ') ?_ ?_
        · rintro σ' w6 ⟨c6, hc6, hL6, hsub⟩
          refine rn_sub hsub ?_
          refine rn_seq ?_
          refine rn_with (fun σ' w' => ∃ c7, c7 = badC (!x1 op e f) c6 5 ∧ Lk F w2 w' j x nv capv av b (ni + 1) c7 [.int .i64 op, .int .i64 v, e0, e1, e2, e3, f0, f1, f2, f3, .slice ab lb.length capb, .slice ao lo.length capo] ∧ Sub [(0, .pointer (some ⟨j, 0, none⟩)), (1, .slice (some ⟨bb, q, none⟩) l.length cap), (2, .int .i64 (deep : Nat)), (6, .int .i64 (i : Nat)), (7, .pointer (some ⟨x, 0, none⟩))] σ') ?_ ?_
          · rintro σ' w7 ⟨c7, hc7, hL7, hsub⟩
            refine rn_sub hsub ?_
            refine rn_seq ?_
            refine rn_with (fun σ' w' => ∃ c8, c8 = badC (!x2 op lb.length lo.length) c7 5 ∧ Lk F w2 w' j x nv capv av b (ni + 1) c8 [.int .i64 op, .int .i64 v, e0, e1, e2, e3, f0, f1, f2, f3, .slice ab lb.length capb, .slice ao lo.length capo] ∧ Sub [(0, .pointer (some ⟨j, 0, none⟩)), (1, .slice (some ⟨bb, q, none⟩) l.length cap), (2, .int .i64 (deep : Nat)), (6, .int .i64 (i : Nat)), (7, .pointer (some ⟨x, 0, none⟩))] σ') ?_ ?_
            · rintro σ' w8 ⟨c8, hc8, hL8, hsub⟩
              refine rn_sub hsub ?_
              refine au ?_
              refine rn_draw (fun w' => Keep [] w8 w') [6] hMix ?_
              have hS : Keep [] w8 w8.drew := (Keep.refl _ _).drew
              generalize w8.drew = w9 at *
              refine tk 0 ?_
              refine tk 1 ?_
              refine dr_val 2 _ rfl (by decide +kernel) rfl rfl (fun w9 hS9 => val_load1 hT rfl rfl rfl ((hS9.blk hL8.hx (by simp)).cell rfl)) hS ?_
              refine tk 3 ?_
              refine dr_val 4 _ rfl (by decide +kernel) rfl rfl (fun w9 hS9 => val_load1 hT rfl rfl rfl ((hS9.blk hL8.hx (by simp)).cell rfl)) hS ?_
              have hN := needed_ret op 118 w9
              rw [(needC_all op).2.2.1] at hN
              refine dr_op 5 rfl (by decide +kernel) rfl rfl (opTo_call rfl rfl rfl rfl (by decide +kernel) (hN.mono ?_))
              rintro v10 w10 ⟨rfl, rfl⟩
              refine ⟨fun _ => hS, ?_⟩
              refine dr_op 6 rfl (by decide +kernel) rfl rfl (opTo_call rfl rfl rfl rfl (by decide +kernel) ((variable_ret (hS.blk hL8.hj (by simp)) v (needV op)).mono ?_))
              rintro v11 w11 ⟨rfl, hJ11, hk11⟩
              refine ⟨fun h => absurd h (by simp), ?_⟩
              refine dr_done (by decide +kernel) ?_
              have hck : varC nv v (needV op) c8 = lookK nv ni (deep : Nat) (knownS op) (fitsS op e f lb.length lo.length) (needV op) v := by
                rw [hc8, hc7, hc6, fits_x]
                exact look_chain nv ni (deep : Nat) (knownS op) (x1 op e f) (x2 op lb.length lo.length) (needV op) v _ _ _ rfl (by cases x1 op e f <;> cases x2 op lb.length lo.length <;> rfl)
              have hL11 := (hL8.keep hS).turn hJ11 hk11
              generalize varC nv v (needV op) c8 = cc at *
              clear hc6 hc7 hc8 hL4 hL5 hL6 hL7 hL8 hS hJ5 hk5 hJ11 hk11 hN hJ2'
              have hcc0 : cc = 0 → ni + 1 ≤ 150 ∧ deep ≤ 12 := fun h => by have := look_room (hck.symm.trans h); omega
              -- E
              refine rn_seq ?_
              refine rn_with (fun σ' w' => ∃ n1 c1, Tr (fun k => if needE op then chkE nv e (deep + 1) k else .ok k) (ni + 1) cc n1 c1 ∧ Lk F w2 w' j x nv capv av b n1 c1 [.int .i64 op, .int .i64 v, e0, e1, e2, e3, f0, f1, f2, f3, .slice ab lb.length capb, .slice ao lo.length capo] ∧ Sub [(0, .pointer (some ⟨j, 0, none⟩)), (1, .slice (some ⟨bb, q, none⟩) l.length cap), (2, .int .i64 (deep : Nat)), (6, .int .i64 (i : Nat)), (7, .pointer (some ⟨x, 0, none⟩))] σ') ?_ ?_
              · rintro σ' w12 ⟨n1, c1, hT1, hL12, hsub⟩
                refine rn_sub hsub ?_
                refine rn_seq ?_
                refine rn_with (fun σ' w' => ∃ n2 c2, Tr (fun k => if needF op then chkE nv f (deep + 1) k else .ok k) n1 c1 n2 c2 ∧ Lk F w2 w' j x nv capv av b n2 c2 [.int .i64 op, .int .i64 v, e0, e1, e2, e3, f0, f1, f2, f3, .slice ab lb.length capb, .slice ao lo.length capo] ∧ Sub [(0, .pointer (some ⟨j, 0, none⟩)), (1, .slice (some ⟨bb, q, none⟩) l.length cap), (2, .int .i64 (deep : Nat)), (6, .int .i64 (i : Nat)), (7, .pointer (some ⟨x, 0, none⟩))] σ') ?_ ?_
                · rintro σ' w13 ⟨n2, c2, hT2, hL13, hsub⟩
                  refine rn_sub hsub ?_
                  have hd2 : (deep + 1 ≤ 13 ∨ (c2 ≠ 0 ∧ deep + 1 ≤ 14)) := by
                    by_cases hz : cc = 0
                    · exact .inl (by have := hcc0 hz; omega)
                    · have h1 := hT1.1 hz
                      have h2 := hT2.1 (by rw [h1.2]; exact hz)
                      exact .inr ⟨by rw [h2.2, h1.2]; exact hz, by omega⟩
                  refine au ?_
                  refine pl_val _ rfl rfl (val_load1 hT rfl rfl rfl (hL13.hx.cell rfl)) ?_
                  refine au ?_
                  refine pl_num (((deep + 1 : Nat) : Int)) rfl rfl rfl rfl rfl (by simp only [ariP]; omega) ?_
                  refine pl_op rfl rfl (opTo_call rfl rfl rfl rfl (by decide +kernel) ((ih lb (by omega) (by omega) (deep + 1) n2 c2 (hst.hb.keep hL13.hk hst2) (hF2.keep hL13.hk) hFj hL13.hj hd2 hT2.2.2.1 hT2.2.2.2).mono ?_))
                  rintro v14 w14 ⟨rfl, ⟨n3, c3, hJ14, hT3⟩, hk14⟩
                  have hL14 := hL13.turn hJ14 hk14
                  have hd3 : (deep + 1 ≤ 13 ∨ (c3 ≠ 0 ∧ deep + 1 ≤ 14)) := by
                    rcases hd2 with h | ⟨h, h'⟩
                    · exact .inl h
                    · exact .inr ⟨by rw [(hT3.1 h).2]; exact h, h'⟩
                  refine au ?_
                  refine pl_val _ rfl rfl (val_load1 hT rfl rfl rfl (hL14.hx.cell rfl)) ?_
                  refine au ?_
                  refine pl_num (((deep + 1 : Nat) : Int)) rfl rfl rfl rfl rfl (by simp only [ariP]; omega) ?_
                  refine pl_op rfl rfl (opTo_call rfl rfl rfl rfl (by decide +kernel) ((ih lo (by omega) (by omega) (deep + 1) n3 c3 (hst.ho.keep hL14.hk hst2) (hF2.keep hL14.hk) hFj hL14.hj hd3 hT3.2.2.1 hT3.2.2.2).mono ?_))
                  rintro v15 w15 ⟨rfl, ⟨n4, c4, hJ15, hT4⟩, hk15⟩
                  have hL15 := hL14.turn hJ15 hk15
                  refine au ?_
                  refine pl_num (((i + 1 : Nat) : Int)) rfl rfl rfl rfl rfl (by simp only [ariP]; omega) ?_
                  refine au ?_
                  have hTT := Tr.seq hT1 (coded_ite (codedE nv e _ _) (coded_ok _)) (Tr.seq hT2 (coded_ite (codedE nv f _ _) (coded_ok _)) (Tr.seq hT3 (codedSs nv lb _ _) hT4))
                  have hkw15 : Keep [j] w w15 := hk2.tr hL15.hk
                  refine rn_sub ?_ (ih2 (l.length - (i + 1)) [(0, .pointer (some ⟨j, 0, none⟩)), (1, .slice (some ⟨bb, q, none⟩) l.length cap), (2, .int .i64 (deep : Nat)), (6, .int .i64 ((i + 1 : Nat) : Int))] w15 (by omega)
                    ⟨i + 1, n4, c4, by omega, rfl, rfl, hL15.hj, hkw15, hTT.2.2.1, hTT.2.2.2, ?_⟩)
                  · exact ⟨rfl, rfl, rfl, rfl, trivial⟩
                  · by_cases hz : cc = 0
                    · have hS : chkS nv (.mk op v e f lb lo) deep ni = _ := chkS_look nv deep ni op v e f lb lo
                      rw [← hck, if_neg (by simp [hz])] at hS
                      have ht := hTT.2.1 hz
                      cases hxs : chkS nv (.mk op v e f lb lo) deep ni with
                      | ok q' =>
                        obtain ⟨rfl, rfl⟩ := ht.1 q' (by rw [← hxs, hS])
                        exact .inl ⟨hc0, rfl, by rw [hat.1, hxs]⟩
                      | error er =>
                        have := ht.2 er (by rw [← hxs, hS])
                        subst this
                        exact .inr ⟨codedS nv _ _ _ _ hxs, .inl ⟨hc0, hat.2 _ hxs⟩⟩
                    · have ht := hTT.1 hz
                      have hxs : chkS nv (.mk op v e f lb lo) deep ni = .error cc := by rw [chkS_look, ← hck, if_pos hz]
                      rw [ht.2]
                      exact .inr ⟨hz, .inl ⟨hc0, hat.2 _ hxs⟩⟩
                · intro fin
                  refine au ?_
                  refine pl_val _ rfl rfl (val_load1 hT rfl rfl rfl (hL12.hx.cell rfl)) ?_
                  have hN := needed_ret op 102 w12
                  rw [(needC_all op).2.1] at hN
                  refine pl_op rfl rfl (opTo_call rfl rfl rfl rfl (by decide +kernel) (hN.mono ?_))
                  rintro v13 w13 ⟨rfl, rfl⟩
                  cases hbf : needF op with
                  | false =>
                    refine pl_nil ?_
                    refine rn_false rfl ?_
                    refine rn_skip ?_
                    exact fin _ _ ⟨n1, c1, by simp only [hbf]; exact Tr.id hT1.2.2.1 hT1.2.2.2, hL12, rfl, rfl, rfl, rfl, rfl, trivial⟩
                  | true =>
                    refine pl_nil ?_
                    refine rn_true rfl ?_
                    refine rn_plain ?_
                    refine au ?_
                    refine pl_val _ rfl rfl (val_load [f0, f1, f2, f3] hT rfl rfl rfl (hL12.hx.range (by rfl))) ?_
                    refine au ?_
                    refine pl_num (((deep + 1 : Nat) : Int)) rfl rfl rfl rfl rfl (by simp only [ariP]; omega) ?_
                    refine pl_op rfl rfl (opTo_call rfl rfl rfl rfl (by decide +kernel) ((lookExpr_ret _ f (Nat.le_refl _) (by omega) (deep + 1) n1 c1 (hst.hf.keep hL12.hk hst2) (hF2.keep hL12.hk) hFj hL12.hj (by omega) hT1.2.2.1 hT1.2.2.2).mono ?_))
                    rintro v14 w14 ⟨rfl, ⟨n2, c2, hJ14, hT2⟩, hk14⟩
                    refine pl_nil ?_
                    exact fin _ _ ⟨n2, c2, by simp only [hbf]; exact hT2, hL12.turn hJ14 hk14, rfl, rfl, rfl, rfl, rfl, trivial⟩
              · intro fin
                refine au ?_
                refine pl_val _ rfl rfl (val_load1 hT rfl rfl rfl (hL11.hx.cell rfl)) ?_
                have hN := needed_ret op 101 w11
                rw [(needC_all op).1] at hN
                refine pl_op rfl rfl (opTo_call rfl rfl rfl rfl (by decide +kernel) (hN.mono ?_))
                rintro v13 w13 ⟨rfl, rfl⟩
                cases hbe : needE op with
                | false =>
                  refine pl_nil ?_
                  refine rn_false rfl ?_
                  refine rn_skip ?_
                  exact fin _ _ ⟨ni + 1, cc, by simp only [hbe]; exact Tr.id (by omega) (fun h => (hcc0 h).1), hL11, rfl, rfl, rfl, rfl, rfl, trivial⟩
                | true =>
                  refine pl_nil ?_
                  refine rn_true rfl ?_
                  refine rn_plain ?_
                  refine au ?_
                  refine pl_val _ rfl rfl (val_load [e0, e1, e2, e3] hT rfl rfl rfl (hL11.hx.range (by rfl))) ?_
                  refine au ?_
                  refine pl_num (((deep + 1 : Nat) : Int)) rfl rfl rfl rfl rfl (by simp only [ariP]; omega) ?_
                  refine pl_op rfl rfl (opTo_call rfl rfl rfl rfl (by decide +kernel) ((lookExpr_ret _ e (Nat.le_refl _) (by omega) (deep + 1) (ni + 1) cc (hst.he.keep hL11.hk hst2) (hF2.keep hL11.hk) hFj hL11.hj (by omega) (by omega) (fun h => (hcc0 h).1)).mono ?_))
                  rintro v14 w14 ⟨rfl, ⟨n2, c2, hJ14, hT2⟩, hk14⟩
                  refine pl_nil ?_
                  exact fin _ _ ⟨n2, c2, by simp only [hbe]; exact hT2, hL11.turn hJ14 hk14, rfl, rfl, rfl, rfl, rfl, trivial⟩
            · intro fin
              refine au ?_
              refine pl_val _ rfl rfl (val_load1 hT rfl rfl rfl (hL7.hx.cell rfl)) ?_
              have hN := needed_ret op 98 w7
              rw [(needC_all op).2.2.2.1] at hN
              refine pl_op rfl rfl (opTo_call rfl rfl rfl rfl (by decide +kernel) (hN.mono ?_))
              rintro v8 w8 ⟨rfl, rfl⟩
              have hX8 := hL7.hx
              have hN2 := needed_ret op 111 w8
              rw [(needC_all op).2.2.2.2] at hN2
              have stop : ∀ (is : Bool), is = !x2 op lb.length lo.length → ∀ (σ : Env), True → Ret Try.prog 32 [.pointer (some ⟨j, 0, none⟩), .bool is, .int .i64 5] w8 fun r w' => r = .tuple #[] ∧ Lk F w2 w' j x nv capv av b (ni + 1) (badC (!x2 op lb.length lo.length) c7 5) [.int .i64 op, .int .i64 v, e0, e1, e2, e3, f0, f1, f2, f3, .slice ab lb.length capb, .slice ao lo.length capo] := fun is his σ _ => by
                subst his
                exact (bad_ret hL7.hj _ 5).mono fun r w' ⟨h1, h2, h3⟩ => ⟨h1, hL7.turn h2 h3⟩
              cases hbb : needB op with
              | true =>
                refine aub ?_
                refine pl_op rfl rfl (opTo_call rfl rfl rfl rfl (by decide +kernel) (hN2.mono ?_))
                rintro v9 w9 ⟨rfl, rfl⟩
                cases hbo : needO op with
                | true =>
                  refine au ?_
                  refine pl_op rfl rfl (opTo_call rfl rfl rfl rfl (by decide +kernel) ((stop false (by simp [x2, hbb, hbo]) [] trivial).mono ?_))
                  rintro v10 w10 ⟨rfl, hL10⟩
                  refine pl_nil ?_
                  exact fin _ _ ⟨_, rfl, hL10, rfl, rfl, rfl, rfl, rfl, trivial⟩
                | false =>
                  refine aub ?_
                  refine pl_val (.bool (!x2 op lb.length lo.length)) rfl rfl (val_int .i64 _ _ _ rfl rfl rfl (by simp only [intOp, x2, hbb, hbo]; congr 2; rw [Bool.eq_iff_iff]; simp [List.length_pos_iff]) _) ?_
                  refine au ?_
                  refine pl_op rfl rfl (opTo_call rfl rfl rfl rfl (by decide +kernel) ((stop _ rfl [] trivial).mono ?_))
                  rintro v10 w10 ⟨rfl, hL10⟩
                  refine pl_nil ?_
                  exact fin _ _ ⟨_, rfl, hL10, rfl, rfl, rfl, rfl, rfl, trivial⟩
              | false =>
                by_cases hlb : lb.length = 0
                · refine aub ?_
                  refine pl_op rfl rfl (opTo_call rfl rfl rfl rfl (by decide +kernel) (hN2.mono ?_))
                  rintro v9 w9 ⟨rfl, rfl⟩
                  cases hbo : needO op with
                  | true =>
                    refine au ?_
                    refine pl_op rfl rfl (opTo_call rfl rfl rfl rfl (by decide +kernel) ((stop false (by simp [x2, hbb, hbo, hlb]) [] trivial).mono ?_))
                    rintro v10 w10 ⟨rfl, hL10⟩
                    refine pl_nil ?_
                    exact fin _ _ ⟨_, rfl, hL10, rfl, rfl, rfl, rfl, rfl, trivial⟩
                  | false =>
                    refine aub ?_
                    refine pl_val (.bool (!x2 op lb.length lo.length)) rfl rfl (val_int .i64 _ _ _ rfl rfl rfl (by simp only [intOp, x2, hbb, hbo, hlb]; congr 2; rw [Bool.eq_iff_iff]; simp [List.length_pos_iff]) _) ?_
                    refine au ?_
                    refine pl_op rfl rfl (opTo_call rfl rfl rfl rfl (by decide +kernel) ((stop _ rfl [] trivial).mono ?_))
                    rintro v10 w10 ⟨rfl, hL10⟩
                    refine pl_nil ?_
                    exact fin _ _ ⟨_, rfl, hL10, rfl, rfl, rfl, rfl, rfl, trivial⟩
                · refine aub ?_
                  refine pl_op rfl rfl (opTo_call rfl rfl rfl rfl (by decide +kernel) ((stop true (by simp [x2, hbb]; exact .inl (fun h => by subst h; simp at hlb)) [] trivial).mono ?_))
                  rintro v10 w10 ⟨rfl, hL10⟩
                  refine pl_nil ?_
                  exact fin _ _ ⟨_, rfl, hL10, rfl, rfl, rfl, rfl, rfl, trivial⟩
          · intro fin
            refine au ?_
            refine pl_val _ rfl rfl (val_load1 hT rfl rfl rfl (hL6.hx.cell rfl)) ?_
            have hN := needed_ret op 101 w6
            rw [(needC_all op).1] at hN
            refine pl_op rfl rfl (opTo_call rfl rfl rfl rfl (by decide +kernel) (hN.mono ?_))
            rintro v8 w8 ⟨rfl, rfl⟩
            have stop : ∀ (w9 : World) (is : Bool), is = !x1 op e f → Keep [] w8 w9 → Ret Try.prog 32 [.pointer (some ⟨j, 0, none⟩), .bool is, .int .i64 5] w9 fun r w' => r = .tuple #[] ∧ Lk F w2 w' j x nv capv av b (ni + 1) (badC (!x1 op e f) c6 5) [.int .i64 op, .int .i64 v, e0, e1, e2, e3, f0, f1, f2, f3, .slice ab lb.length capb, .slice ao lo.length capo] := fun w9 is his hk9 => by
              subst his
              exact (bad_ret (hL6.keep hk9).hj _ 5).mono fun r w' ⟨h1, h2, h3⟩ => ⟨h1, (hL6.keep hk9).turn h2 h3⟩
            have hX8 := hL6.hx
            cases hbe : needE op with
            | true =>
              refine aub ?_
              have hN2 := needed_ret op 102 w8
              rw [(needC_all op).2.1] at hN2
              refine pl_op rfl rfl (opTo_call rfl rfl rfl rfl (by decide +kernel) (hN2.mono ?_))
              rintro v9 w9 ⟨rfl, rfl⟩
              cases hbf : needF op with
              | true =>
                refine au ?_
                refine pl_op rfl rfl (opTo_call rfl rfl rfl rfl (by decide +kernel) ((stop _ false (by simp [x1, hbe, hbf]) (Keep.refl _ _)).mono ?_))
                rintro v10 w10 ⟨rfl, hL10⟩
                refine pl_nil ?_
                exact fin _ _ ⟨_, rfl, hL10, rfl, rfl, rfl, rfl, rfl, trivial⟩
              | false =>
                refine au ?_
                refine pl_val _ rfl rfl (val_load [f0, f1, f2, f3] hT rfl rfl rfl (hX8.range (by rfl))) ?_
                refine pl_op rfl rfl (opTo_call rfl rfl rfl rfl (by decide +kernel) ((zeroExpr_ret (hst.hf.keep hL6.hk hst2)).mono ?_))
                rintro v10 w10 ⟨rfl, hk10⟩
                refine au ?_
                refine pl_op rfl rfl (opTo_call rfl rfl rfl rfl (by decide +kernel) ((stop _ _ (by simp [x1, hbe, hbf]) hk10).mono ?_))
                rintro v11 w11 ⟨rfl, hL11⟩
                refine pl_nil ?_
                exact fin _ _ ⟨_, rfl, hL11, rfl, rfl, rfl, rfl, rfl, trivial⟩
            | false =>
              refine au ?_
              refine pl_val _ rfl rfl (val_load [e0, e1, e2, e3] hT rfl rfl rfl (hX8.range (by rfl))) ?_
              refine pl_op rfl rfl (opTo_call rfl rfl rfl rfl (by decide +kernel) ((zeroExpr_ret (hst.he.keep hL6.hk hst2)).mono ?_))
              rintro v9 w9 ⟨rfl, hk9⟩
              cases hz1 : zeroE e with
              | false =>
                refine au ?_
                refine pl_op rfl rfl (opTo_call rfl rfl rfl rfl (by decide +kernel) ((stop _ true (by simp [x1, hbe, hz1]) hk9).mono ?_))
                rintro v11 w11 ⟨rfl, hL11⟩
                refine pl_nil ?_
                exact fin _ _ ⟨_, rfl, hL11, rfl, rfl, rfl, rfl, rfl, trivial⟩
              | true =>
                have hX9 := hk9.blk hX8 (by simp)
                refine aub ?_
                have hN2 := needed_ret op 102 w9
                rw [(needC_all op).2.1] at hN2
                refine pl_op rfl rfl (opTo_call rfl rfl rfl rfl (by decide +kernel) (hN2.mono ?_))
                rintro v10 w10 ⟨rfl, rfl⟩
                cases hbf : needF op with
                | true =>
                  refine au ?_
                  refine pl_op rfl rfl (opTo_call rfl rfl rfl rfl (by decide +kernel) ((stop _ false (by simp [x1, hbe, hbf, hz1]) hk9).mono ?_))
                  rintro v11 w11 ⟨rfl, hL11⟩
                  refine pl_nil ?_
                  exact fin _ _ ⟨_, rfl, hL11, rfl, rfl, rfl, rfl, rfl, trivial⟩
                | false =>
                  refine au ?_
                  refine pl_val _ rfl rfl (val_load [f0, f1, f2, f3] hT rfl rfl rfl (hX9.range (by rfl))) ?_
                  refine pl_op rfl rfl (opTo_call rfl rfl rfl rfl (by decide +kernel) ((zeroExpr_ret ((hst.hf.keep hL6.hk hst2).keep hk9 (hF2.keep hL6.hk).stays)).mono ?_))
                  rintro v11 w11 ⟨rfl, hk11⟩
                  refine au ?_
                  refine pl_op rfl rfl (opTo_call rfl rfl rfl rfl (by decide +kernel) ((stop _ _ (by simp [x1, hbe, hbf, hz1]) (hk9.tr hk11)).mono ?_))
                  rintro v12 w12 ⟨rfl, hL12⟩
                  refine pl_nil ?_
                  exact fin _ _ ⟨_, rfl, hL12, rfl, rfl, rfl, rfl, rfl, trivial⟩
        · intro fin
          have hX5 := hL5.hx
          by_cases h1 : op < 1
          · refine aub ?_
            refine pl_op rfl rfl (opTo_call rfl rfl rfl rfl (by decide +kernel) ((bad_ret hL5.hj true 2).mono ?_))
            rintro v6 w6 ⟨rfl, hJ6, hk6⟩
            refine pl_nil ?_
            exact fin _ _ ⟨_, by simp [knownS, show ¬ 1 ≤ op by omega], hL5.turn hJ6 hk6, rfl, rfl, rfl, rfl, rfl, trivial⟩
          · refine aub ?_
            refine pl_val (.bool (!knownS op)) rfl rfl (val_int .i64 _ _ _ rfl rfl rfl (by simp only [intOp, knownS]; congr 2; rw [Bool.eq_iff_iff]; simp; omega) w5) ?_
            refine au ?_
            refine pl_op rfl rfl (opTo_call rfl rfl rfl rfl (by decide +kernel) ((bad_ret hL5.hj (!knownS op) 2).mono ?_))
            rintro v6 w6 ⟨rfl, hJ6, hk6⟩
            refine pl_nil ?_
            exact fin _ _ ⟨_, rfl, hL5.turn hJ6 hk6, rfl, rfl, rfl, rfl, rfl, trivial⟩
      · refine aub ?_
        exact rn_end Try.func21 (.inr (.inl ⟨rfl, rfl⟩)) ⟨rfl, ⟨ni, ci, hJ2, hend (.inr hcz)⟩, hk2⟩
    · refine nay ?_
      refine au ?_
      exact rn_end Try.func21 (.inr (.inl ⟨rfl, rfl⟩)) ⟨rfl, ⟨ni, ci, hJ2, hend (.inl (by omega))⟩, hk2⟩
end E
end Go.Proofs.Ytcgigfnbjmlhhad
