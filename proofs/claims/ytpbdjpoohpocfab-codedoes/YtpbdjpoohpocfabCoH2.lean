/- Contracts of the document's ownList and Own. -/
import Derived.Test.YtpbdjpoohpocfabCoH
namespace Go.Proofs.Ytpbdjpoohpocfab
set_option maxRecDepth 20000
set_option maxHeartbeats 4000000
namespace E
open Go.Proofs

theorem built_stmt6 (a b : Int) (e0 e1 e2 e3 f0 f1 f2 f3 : Value) (p q : Option Addr) (m c m' c' : Nat) : Try.prog.built 119 [(0, .int .i64 a), (1, .int .i64 b), (2, .agg #[e0, e1, e2, e3]), (3, .agg #[f0, f1, f2, f3]), (4, .slice p m c), (5, .slice q m' c')] = some [Value.int .i64 a, .int .i64 b, e0, e1, e2, e3, f0, f1, f2, f3, .slice p m c, .slice q m' c'].toArray := by kernel_rfl
theorem slice_stmt (a b c d e f g h i j k l : Value) : sliceCells Try.prog 71 1 [(0, .agg #[a, b, c, d, e, f, g, h, i, j, k, l])] = some (119, #[a, b, c, d, e, f, g, h, i, j, k, l]) := by kernel_rfl

theorem ownList_ret : ∀ (k : Nat) (l : List ST), szSs l < k → szSs l ≤ 1000 → ∀ {F : Nat → Prop} {w : World} {x : Value}, StmtsV F w x l → In F w →
    Ret Try.prog 65 [x] w fun r w' => (∃ g ts, AStmtsV w' r g ts ∧ erSs ts = l ∧ Cnts (fun b => hit g b ts.length + sSs b ts) w.heap.size w'.heap.size ∧ Cnts (fun b => xSs b ts) w.heap.size w'.heap.size) ∧ Keep [] w w' := by
  intro k
  induction k with
  | zero => intro l hl; omega
  | succ k ih =>
    intro l hl hl3 F w x h hF
    obtain ⟨a, cap, rfl⟩ := h.form
    have hlen := szSs_len l
    refine ret_of 50 Try.func65 rfl rfl (by simp) ?_
    (repeat (first | refine pl_pure hT rfl rfl rfl ?_ | refine pl_nil ?_ | refine rn_seq ?_ | refine rn_plain ?_ | refine rn_block ?_ | refine rn_inBlock ?_ | refine rn_skip ?_ | refine rn_true rfl ?_ | refine rn_false rfl ?_ | refine rn_exit rfl ?_ | refine pl_not rfl rfl ?_))
    refine rn_ind (fun m σ w' => ∃ (i : Nat) (rv : Value) (ccs : List (List Value)) (ts : List AS), i ≤ l.length ∧ m = l.length - i ∧ σ = [(0, .slice a l.length cap), (3, rv), (4, .int .i64 (i : Nat))] ∧
      GrowS 119 w' w.heap.size rv ccs ts ∧ erSs ts = l.take i ∧ Keep [] w w') l.length _ ?_ ⟨0, _, [], [], by omega, by omega, rfl, GrowS.nil _ _ _, rfl, Keep.refl _ _⟩ ?_
    · exact ⟨rfl, rfl, rfl, trivial⟩
    rintro m σ w5 ih2 ⟨i, rv, ccs, ts, hi, rfl, rfl, hG, her, hkw⟩
    have hti : ts.length = i := by
      have := congrArg List.length her
      rw [erSs_length, List.length_take] at this
      omega
    (repeat (first | refine pl_pure hT rfl rfl rfl ?_ | refine pl_nil ?_ | refine rn_seq ?_ | refine rn_plain ?_ | refine rn_block ?_ | refine rn_inBlock ?_ | refine rn_skip ?_ | refine rn_true rfl ?_ | refine rn_false rfl ?_ | refine rn_exit rfl ?_ | refine pl_not rfl rfl ?_))
    by_cases hlt : i < l.length
    · refine pl_yes rfl rfl rfl rfl rfl (by first | (simp only [cmpP]; omega) | (simp [cmpP]; done) | (simp [cmpP]; omega)) ?_
      (repeat (first | refine pl_pure hT rfl rfl rfl ?_ | refine pl_nil ?_ | refine rn_seq ?_ | refine rn_plain ?_ | refine rn_block ?_ | refine rn_inBlock ?_ | refine rn_skip ?_ | refine rn_true rfl ?_ | refine rn_false rfl ?_ | refine rn_exit rfl ?_ | refine pl_not rfl rfl ?_))
      have hget : l[i]? = some l[i] := List.getElem?_eq_getElem hlt
      have hsz := szSs_at hget
      obtain ⟨op, v, e, f, lb, lo, hs⟩ : ∃ op v e f lb lo, l[i] = ST.mk op v e f lb lo := by cases l[i]; exact ⟨_, _, _, _, _, _, rfl⟩
      rw [hs] at hget hsz
      simp only [szS] at hsz
      obtain ⟨bb, q, cap', ce, cf, bv, ov, hv, hat⟩ := (h.keep hkw hF.stays).stmtAt hget
      cases hv
      have hF5 := hF.keep hkw
      refine rn_draw (fun w' => Keep [] w5 w') [37] hMix ?_
      have hS : Keep [] w5 w5.drew := (Keep.refl _ _).drew
      generalize w5.drew = w6 at *
      refine dr_pure 0 hT rfl (by decide +kernel) rfl rfl rfl ?_
      refine dr_pure 1 hT rfl (by decide +kernel) rfl rfl rfl ?_
      refine dr_pure 2 hT rfl (by decide +kernel) rfl rfl rfl ?_
      refine dr_any 3 _ rfl (by decide +kernel) rfl rfl (fun w => val_index i hT rfl rfl rfl rfl rfl hlt w) ?_
      refine dr_pure 4 hT rfl (by decide +kernel) rfl rfl rfl ?_
      refine dr_val 5 _ rfl (by decide +kernel) rfl rfl (fun w9 hS9 => val_load1 hT rfl rfl rfl (hat.keep hS9 hF5.stays).cop) hS ?_
      refine dr_pure 6 hT rfl (by decide +kernel) rfl rfl rfl ?_
      refine dr_pure 7 hT rfl (by decide +kernel) rfl rfl rfl ?_
      refine dr_any 8 _ rfl (by decide +kernel) rfl rfl (fun w => val_index i hT rfl rfl rfl rfl rfl hlt w) ?_
      refine dr_pure 9 hT rfl (by decide +kernel) rfl rfl rfl ?_
      refine dr_val 10 _ rfl (by decide +kernel) rfl rfl (fun w9 hS9 => val_load1 hT rfl rfl rfl (hat.keep hS9 hF5.stays).cv) hS ?_
      refine dr_pure 11 hT rfl (by decide +kernel) rfl rfl rfl ?_
      refine dr_pure 12 hT rfl (by decide +kernel) rfl rfl rfl ?_
      refine dr_any 13 _ rfl (by decide +kernel) rfl rfl (fun w => val_index i hT rfl rfl rfl rfl rfl hlt w) ?_
      refine dr_pure 14 hT rfl (by decide +kernel) rfl rfl rfl ?_
      refine dr_val 15 (.agg ce.toArray) rfl (by decide +kernel) rfl rfl (fun w9 hS9 => val_load ce hT rfl rfl (by rw [hat.he.length]; rfl) (hat.keep hS9 hF5.stays).re) hS ?_
      refine dr_pure 17 hT rfl (by decide +kernel) rfl rfl rfl ?_
      refine dr_pure 18 hT rfl (by decide +kernel) rfl rfl rfl ?_
      refine dr_any 19 _ rfl (by decide +kernel) rfl rfl (fun w => val_index i hT rfl rfl rfl rfl rfl hlt w) ?_
      refine dr_pure 20 hT rfl (by decide +kernel) rfl rfl rfl ?_
      refine dr_val 21 (.agg cf.toArray) rfl (by decide +kernel) rfl rfl (fun w9 hS9 => val_load cf hT rfl rfl (by rw [hat.hf.length]; rfl) (hat.keep hS9 hF5.stays).rf) hS ?_
      refine dr_pure 23 hT rfl (by decide +kernel) rfl rfl rfl ?_
      refine dr_pure 24 hT rfl (by decide +kernel) rfl rfl rfl ?_
      refine dr_any 25 _ rfl (by decide +kernel) rfl rfl (fun w => val_index i hT rfl rfl rfl rfl rfl hlt w) ?_
      refine dr_pure 26 hT rfl (by decide +kernel) rfl rfl rfl ?_
      refine dr_val 27 bv rfl (by decide +kernel) rfl rfl (fun w9 hS9 => val_load1 hT rfl rfl rfl (hat.keep hS9 hF5.stays).cb) hS ?_
      refine dr_pure 29 hT rfl (by decide +kernel) rfl rfl rfl ?_
      refine dr_pure 30 hT rfl (by decide +kernel) rfl rfl rfl ?_
      refine dr_any 31 _ rfl (by decide +kernel) rfl rfl (fun w => val_index i hT rfl rfl rfl rfl rfl hlt w) ?_
      refine dr_pure 32 hT rfl (by decide +kernel) rfl rfl rfl ?_
      refine dr_val 33 ov rfl (by decide +kernel) rfl rfl (fun w9 hS9 => val_load1 hT rfl rfl rfl (hat.keep hS9 hF5.stays).co) hS ?_
      refine dr_op 16 rfl (by decide +kernel) rfl rfl (opTo_call rfl rfl rfl rfl (by decide +kernel) ((ownExpr_ret _ e (Nat.le_refl _) (by omega) (hat.keep hS hF5.stays).he (hF5.keep hS)).mono ?_))
      rintro v7 w7 ⟨⟨e', ce', rfl, hAe, hee, hCe⟩, hk7⟩
      have hS7 := hS.tr hk7
      refine ⟨fun _ => hS7, ?_⟩
      refine dr_op 22 rfl (by decide +kernel) rfl rfl (opTo_call rfl rfl rfl rfl (by decide +kernel) ((ownExpr_ret _ f (Nat.le_refl _) (by omega) (hat.keep hS7 hF5.stays).hf (hF5.keep hS7)).mono ?_))
      rintro v8 w8 ⟨⟨f', cf', rfl, hAf, hef, hCf⟩, hk8⟩
      have hS8 := hS7.tr hk8
      refine ⟨fun _ => hS8, ?_⟩
      refine dr_op 28 rfl (by decide +kernel) rfl rfl (opTo_call rfl rfl rfl rfl (by decide +kernel) ((ih lb (by omega) (by omega) (hat.keep hS8 hF5.stays).hb (hF5.keep hS8)).mono ?_))
      rintro v9 w9 ⟨⟨gb, tb, hAb, heb, hCb, hXb⟩, hk9⟩
      have hS9 := hS8.tr hk9
      refine ⟨fun _ => hS9, ?_⟩
      refine dr_op 34 rfl (by decide +kernel) rfl rfl (opTo_call rfl rfl rfl rfl (by decide +kernel) ((ih lo (by omega) (by omega) (hat.keep hS9 hF5.stays).ho (hF5.keep hS9)).mono ?_))
      rintro v10 w10 ⟨⟨go, to', hAo, heo, hCo, hXo⟩, hk10⟩
      have hS10 := hS9.tr hk10
      refine ⟨fun _ => hS10, ?_⟩
      obtain ⟨e0, e1, e2, e3, rfl⟩ := list4 hAe.length
      obtain ⟨f0, f1, f2, f3, rfl⟩ := list4 hAf.length
      obtain ⟨ab, capb, rfl⟩ := hAb.form
      obtain ⟨ao, capo, rfl⟩ := hAo.form
      refine dr_any 35 _ rfl (by decide +kernel) rfl rfl (fun w => val_build _ rfl rfl (built_stmt6 op v e0 e1 e2 e3 f0 f1 f2 f3 _ _ _ _ _ _) w) ?_
      refine dr_op 36 rfl (by decide +kernel) rfl rfl (opTo_sliceN _ _ rfl rfl (slice_stmt _ _ _ _ _ _ _ _ _ _ _ _) ?_)
      intro w11 x11 hx11 hs11 hk11 hX11
      have hS11 := hS10.tr hk11
      refine ⟨fun _ => hS11, ?_⟩
      have hG6 := hG.keep hS
      have hG11 := hG.keep hS11
      have hk611 : Keep [] w6 w11 := (((hk7.tr hk8).tr hk9).tr hk10).tr hk11
      have hA : AStmtV w11 (scells op v [e0, e1, e2, e3] [f0, f1, f2, f3] (.slice ab tb.length capb) (.slice ao to'.length capo)) (.mk op v e' f' gb tb go to') :=
        AStmtV.of ((((hAe.keep hk8).keep hk9).keep hk10).keep hk11) (((hAf.keep hk9).keep hk10).keep hk11) ((hAb.keep hk10).keep hk11) (hAo.keep hk11)
      have hcS : Cnts (fun b => sS b (.mk op v e' f' gb tb go to')) w6.heap.size w11.heap.size :=
        ((hCb.add hCo hk9.size hk10.size).mono (by have := hk7.size; have := hk8.size; omega) hk11.size).congr fun b => by simp only [sS]; omega
      have hcX : Cnts (fun b => xS b (.mk op v e' f' gb tb go to')) w6.heap.size w11.heap.size :=
        (((((hCe.add hCf hk7.size hk8.size).add hXb (by have := hk7.size; have := hk8.size; omega) hk9.size)).add hXo (by have := hk7.size; have := hk8.size; have := hk9.size; omega) hk10.size).mono (Nat.le_refl _) hk11.size).congr fun b => by simp only [xS]
      have hci3 := hG.len
      refine dr_op 37 rfl (by decide +kernel) rfl rfl (opTo_app w.heap.size 119 12 160 ccs.flatten (scells op v [e0, e1, e2, e3] [f0, f1, f2, f3] (.slice ab tb.length capb) (.slice ao to'.length capo)) rfl rfl rfl (by decide +kernel) hG11.own (hX11.range (by rfl)) rfl hA.plain.one (by decide) (by unfold maxLen; omega) (by omega) (by have := hkw.size; have := hS11.size; omega) ?_)
      intro g12 cap12 w12 ho12 hor12
      refine ⟨fun h => absurd h (by simp), ?_⟩
      have hG12 := hG6.app hA hcS hcX hk611 (by have := hkw.size; have := hS.size; omega) ho12 hor12
      have hkw12 : Keep [] w w12 := by
        rcases hor12 with ⟨h2, _, h3⟩ | ⟨_, h3, _⟩
        · exact (hkw.tr hS11).trB h3 (hG11.own.lt g12 h2).1
        · exact (hkw.tr hS11).tr h3
      refine dr_pure 38 hT rfl (by decide +kernel) rfl rfl rfl ?_
      refine dr_done (by decide +kernel) ?_
      (repeat (first | refine pl_pure hT rfl rfl rfl ?_ | refine pl_nil ?_ | refine rn_seq ?_ | refine rn_plain ?_ | refine rn_block ?_ | refine rn_inBlock ?_ | refine rn_skip ?_ | refine rn_true rfl ?_ | refine rn_false rfl ?_ | refine rn_exit rfl ?_ | refine pl_not rfl rfl ?_))
      refine pl_num (((i + 1 : Nat) : Int)) rfl rfl rfl rfl rfl (by simp only [ariP]; omega) ?_
      (repeat (first | refine pl_pure hT rfl rfl rfl ?_ | refine pl_nil ?_ | refine rn_seq ?_ | refine rn_plain ?_ | refine rn_block ?_ | refine rn_inBlock ?_ | refine rn_skip ?_ | refine rn_true rfl ?_ | refine rn_false rfl ?_ | refine rn_exit rfl ?_ | refine pl_not rfl rfl ?_))
      refine rn_sub ?_ (ih2 (l.length - (i + 1)) [(0, .slice (some ⟨bb, q, none⟩) l.length cap), (3, .slice (some ⟨g12, 0, none⟩) (ccs.length + 1) cap12), (4, .int .i64 ((i + 1 : Nat) : Int))] w12 (by omega)
        ⟨i + 1, _, _, _, by omega, rfl, rfl, hG12, erSs_take_succ her hlt (by rw [hs]; simp only [erS, hee, hef, heb, heo]), hkw12⟩)
      exact ⟨rfl, rfl, rfl, trivial⟩
    · refine pl_no rfl rfl rfl rfl rfl rfl (by first | (simp only [cmpP]; omega) | (simp [cmpP]; done) | (simp [cmpP]; omega)) ?_
      (repeat (first | refine pl_pure hT rfl rfl rfl ?_ | refine pl_nil ?_ | refine rn_seq ?_ | refine rn_plain ?_ | refine rn_block ?_ | refine rn_inBlock ?_ | refine rn_skip ?_ | refine rn_true rfl ?_ | refine rn_false rfl ?_ | refine rn_exit rfl ?_ | refine pl_not rfl rfl ?_))
      obtain ⟨g, hA, hC⟩ := hG.done
      rw [List.take_of_length_le (by omega)] at her
      exact rn_ret Try.func65 (.inl ⟨_, rfl, rfl⟩) ⟨⟨g, ts, hA, her, hC, hG.cntX⟩, hkw⟩

theorem opTo_app0 {P : Program} {n : Nat} {σ : Env} {o : Oper} {w : World} {t : TypeId} {s x : Operand} {a : Option Addr} {c : Nat} {K : Value → World → Prop} (e size bytes : Nat)
    (ho : o.op = .call { callee := .builtin .append, args := #[s, x], argTypes := #[t, t] }) (hs : ev σ s = some (.slice none 0 0)) (hx : ev σ x = some (.slice a 0 c)) (hP : appOk P t e size bytes = true)
    (hK : K (.slice none 0 0) w) : OpTo P n σ o w K := by
  obtain ⟨i, z, hu, hi, hz, hsize, hby, hzs⟩ := appOk_run hP
  refine opTo_run (w' := w) (v := .slice none 0 0) (fun ac ha => ?_) hK
  have hr : (Builtin.append_ #[t, t] o.type #[.slice none 0 0, .slice a 0 c]).run P w = .ok (.slice none 0 0) w := by
    cases a <;> simp [Builtin.append_, run_underlying hu, sizeOf, typeInfo, hi, Builtin.lenOf, Builtin.firstCells, loadCells, loadCellsFrom]
  simp [execOp, ho, resolve, invoke, builtin, ha.eval hs, ha.eval hx, hr]

theorem built_prog (a b : Option Addr) (m c m' c' : Nat) : Try.prog.built 73 [(0, .slice a m c), (1, .slice b m' c')] = some [Value.slice a m c, .slice b m' c'].toArray := by kernel_rfl
def progZ : List Value := [.slice none 0 0, .slice none 0 0]
theorem zero_prog : ((Try.prog.info? 73).bind (·.zero)).map (·.cells) = some progZ.toArray := by kernel_rfl

theorem vars_flat {F : Nat → Prop} {w : World} {b q cap : Nat} {vs : List VarT} (h : VarsV F w (.slice (some ⟨b, q, none⟩) vs.length cap) vs) : w.rangeAt b q (vs.flatMap vcell) := by
  intro j u hu
  obtain ⟨p, h1, h2⟩ := flat_get (k := 2) (by decide) (fun p _ => rfl) hu
  obtain ⟨b', q', cap', hv, _, hr⟩ := h.at h1
  cases hv
  have := hr (j % 2) u h2
  rwa [show q + j / 2 * 2 + j % 2 = q + j by omega] at this

theorem vars_of_own {w : World} {B e : Nat} {v : Value} {vs : List VarT} (h : Own w B e 2 v vs.length (vs.flatMap vcell)) : VarsV (fun b => B ≤ b ∧ b < w.heap.size) w v vs := by
  rcases h.2 with ⟨hv, h0⟩ | ⟨g, cap, cur, hv, hB, hb, hc, hl, ht⟩
  · have : vs = [] := List.eq_nil_of_length_eq_zero h0
    subst this
    exact ⟨none, 0, hv, by simp, fun h => absurd h (by simp)⟩
  · refine ⟨_, cap, hv, hc, fun h0 => ⟨g, 0, rfl, ⟨hB, hb.lt⟩, fun i hi => ?_⟩⟩
    have hx : vs[i]? = some vs[i] := List.getElem?_eq_getElem hi
    have hf := flat_at (f := vcell) (k := 2) (fun p _ => rfl) hx
    show w.rangeAt g (0 + i * 2) (vcell (vs.getD i (ByteArray.empty, 0)))
    rw [List.getD_eq_getElem?_getD, hx]
    rw [Nat.zero_add]
    refine hb.range ?_
    show (cur.drop (i * 2)).take 2 = vcell vs[i]
    rw [← hf, ← ht, List.drop_take, List.take_take, Nat.min_eq_left (by omega)]

theorem Own_ret {F : Nat → Prop} {w : World} {x : Value} {vs : List VarT} {body : List ST} (h : ProgV F w x vs body) (hF : In F w) (h30 : vs.length ≤ 30) (hsz : szSs body ≤ 1000) :
    Ret Try.prog 32 [x] w fun r w' => (∃ vv bv g ts B1, r = .agg #[vv, bv] ∧ VarsV (fun b => w.heap.size ≤ b ∧ b < B1) w' vv vs ∧ AStmtsV w' bv g ts ∧ erSs ts = body ∧ (∀ b, hit g b ts.length + sSs b ts ≤ 1) ∧ (∀ b, xSs b ts ≤ 1) ∧
      (∀ b, b < B1 → hit g b ts.length + sSs b ts = 0 ∧ xSs b ts = 0) ∧ w.heap.size ≤ B1 ∧ B1 ≤ w'.heap.size) ∧ Keep [] w w' := by
  obtain ⟨vv, bv, rfl, hv, hb⟩ := h
  obtain ⟨av, capv, rfl⟩ := hv.form
  obtain ⟨ab, capb, rfl⟩ := hb.form
  refine ret_of 12 Try.func32 rfl rfl (by simp) ?_
  (repeat (first | refine pl_pure hT rfl rfl rfl ?_ | refine pl_nil ?_ | refine rn_seq ?_ | refine rn_plain ?_ | refine rn_block ?_ | refine rn_inBlock ?_ | refine rn_skip ?_ | refine rn_true rfl ?_ | refine rn_false rfl ?_ | refine rn_exit rfl ?_ | refine pl_not rfl rfl ?_))
  refine pl_op rfl rfl (opTo_boxN [.slice av vs.length capv, .slice ab body.length capb] rfl rfl rfl ?_)
  intro w1 b1 hb1 hs1 hk1 hB1
  refine pl_op rfl rfl (opTo_allocN _ rfl zero_prog ?_)
  intro w2 b2 hb2 hs2 hk2 hB2
  have hkw2 := hk1.tr hk2
  (repeat (first | refine pl_pure hT rfl rfl rfl ?_ | refine pl_nil ?_ | refine rn_seq ?_ | refine rn_plain ?_ | refine rn_block ?_ | refine rn_inBlock ?_ | refine rn_skip ?_ | refine rn_true rfl ?_ | refine rn_false rfl ?_ | refine rn_exit rfl ?_ | refine pl_not rfl rfl ?_))
  refine rn_draw (fun w' => Keep [] w2 w' ∧ Blk w' b1 [.slice av vs.length capv, .slice ab body.length capb] 73) [8] hMix ?_
  have hS : Keep [] w2 w2.drew ∧ Blk w2.drew b1 [.slice av vs.length capv, .slice ab body.length capb] 73 := ⟨(Keep.refl _ _).drew, (hk2.blk hB1 (by simp)).drew⟩
  generalize w2.drew = w3 at *
  try (first | refine dr_pure 0 hT rfl (by decide +kernel) rfl rfl rfl ?_ | refine dr_not 0 rfl (by decide +kernel) rfl rfl ?_ | refine dr_val 0 _ rfl (by decide +kernel) rfl rfl (fun w9 hS9 => val_load1 hT rfl rfl rfl (Blk.cell hS9.2 (by rfl))) hS ?_ | refine dr_yes 0 rfl (by decide +kernel) rfl rfl rfl rfl rfl (by first | (simp only [cmpP]; omega) | (simp [cmpP]; done) | (simp [cmpP]; omega)) ?_ | refine dr_no 0 rfl (by decide +kernel) rfl rfl rfl rfl rfl rfl (by first | (simp only [cmpP]; omega) | (simp [cmpP]; done) | (simp [cmpP]; omega)) ?_)
  try (first | refine dr_pure 1 hT rfl (by decide +kernel) rfl rfl rfl ?_ | refine dr_not 1 rfl (by decide +kernel) rfl rfl ?_ | refine dr_val 1 _ rfl (by decide +kernel) rfl rfl (fun w9 hS9 => val_load1 hT rfl rfl rfl (Blk.cell hS9.2 (by rfl))) hS ?_ | refine dr_yes 1 rfl (by decide +kernel) rfl rfl rfl rfl rfl (by first | (simp only [cmpP]; omega) | (simp [cmpP]; done) | (simp [cmpP]; omega)) ?_ | refine dr_no 1 rfl (by decide +kernel) rfl rfl rfl rfl rfl rfl (by first | (simp only [cmpP]; omega) | (simp [cmpP]; done) | (simp [cmpP]; omega)) ?_)
  try (first | refine dr_pure 2 hT rfl (by decide +kernel) rfl rfl rfl ?_ | refine dr_not 2 rfl (by decide +kernel) rfl rfl ?_ | refine dr_val 2 _ rfl (by decide +kernel) rfl rfl (fun w9 hS9 => val_load1 hT rfl rfl rfl (Blk.cell hS9.2 (by rfl))) hS ?_ | refine dr_yes 2 rfl (by decide +kernel) rfl rfl rfl rfl rfl (by first | (simp only [cmpP]; omega) | (simp [cmpP]; done) | (simp [cmpP]; omega)) ?_ | refine dr_no 2 rfl (by decide +kernel) rfl rfl rfl rfl rfl rfl (by first | (simp only [cmpP]; omega) | (simp [cmpP]; done) | (simp [cmpP]; omega)) ?_)
  try (first | refine dr_pure 4 hT rfl (by decide +kernel) rfl rfl rfl ?_ | refine dr_not 4 rfl (by decide +kernel) rfl rfl ?_ | refine dr_val 4 _ rfl (by decide +kernel) rfl rfl (fun w9 hS9 => val_load1 hT rfl rfl rfl (Blk.cell hS9.2 (by rfl))) hS ?_ | refine dr_yes 4 rfl (by decide +kernel) rfl rfl rfl rfl rfl (by first | (simp only [cmpP]; omega) | (simp [cmpP]; done) | (simp [cmpP]; omega)) ?_ | refine dr_no 4 rfl (by decide +kernel) rfl rfl rfl rfl rfl rfl (by first | (simp only [cmpP]; omega) | (simp [cmpP]; done) | (simp [cmpP]; omega)) ?_)
  try (first | refine dr_pure 5 hT rfl (by decide +kernel) rfl rfl rfl ?_ | refine dr_not 5 rfl (by decide +kernel) rfl rfl ?_ | refine dr_val 5 _ rfl (by decide +kernel) rfl rfl (fun w9 hS9 => val_load1 hT rfl rfl rfl (Blk.cell hS9.2 (by rfl))) hS ?_ | refine dr_yes 5 rfl (by decide +kernel) rfl rfl rfl rfl rfl (by first | (simp only [cmpP]; omega) | (simp [cmpP]; done) | (simp [cmpP]; omega)) ?_ | refine dr_no 5 rfl (by decide +kernel) rfl rfl rfl rfl rfl rfl (by first | (simp only [cmpP]; omega) | (simp [cmpP]; done) | (simp [cmpP]; omega)) ?_)
  refine dr_with 3 63 (fun σ' w' => ∃ vv, VarsV (fun b => b2 + 1 ≤ b ∧ b < w'.heap.size) w' vv vs ∧ (∃ a m c, vv = .slice a m c) ∧ (Keep [] w2 w' ∧ Blk w' b1 [.slice av vs.length capv, .slice ab body.length capb] 73) ∧ Sub [(2, .pointer (some ⟨b2, 0, none⟩)), (7, vv), (9, .slice ab body.length capb)] σ') ?_ ?_
  · rintro σ' w5 ⟨vv, hvv, ⟨a, m, c, rfl⟩, hS5, hsub⟩
    refine dr_sub hsub ?_
    refine dr_op 6 rfl (by decide +kernel) rfl rfl (opTo_call rfl rfl rfl rfl (by decide +kernel) ((ownList_ret _ body (Nat.lt_succ_self _) hsz (hb.keep (hkw2.tr hS5.1) hF.stays) (hF.keep (hkw2.tr hS5.1))).mono ?_))
    rintro v6 w6 ⟨⟨g, ts, hA, her, hC, hX⟩, hk6⟩
    refine ⟨fun _ => ⟨hS5.1.tr hk6, hk6.blk hS5.2 (by simp)⟩, ?_⟩
    obtain ⟨a', cap', rfl⟩ := hA.form
    refine dr_any 7 _ rfl (by decide +kernel) rfl rfl (fun w => val_build _ rfl rfl (built_prog _ _ _ _ _ _) w) ?_
    refine dr_op 8 rfl (by decide +kernel) rfl rfl (opTo_storeN _ rfl rfl rfl rfl (by kernel_rfl) ((hS5.1.tr hk6).blk hB2 (by simp)) (by simp [progZ]) (by intro u hu; simp at hu; rcases hu with rfl | rfl <;> rfl) ?_)
    intro w7 hs7 hk7 hB27
    refine ⟨fun h => absurd h (by simp), ?_⟩
    refine dr_done (by decide +kernel) ?_
    rw [splice_whole (by rfl)] at hB27
    have hb2w : w.heap.size ≤ b2 := by omega
    have hb2l : b2 < w5.heap.size := by have := hS5.1.size; omega
    refine rn_ret Try.func32 (.inr (.inr (.inl ⟨_, _, _, rfl, rfl, blk_loadVar hT hB27 rfl⟩))) ⟨⟨_, _, g, ts, w5.heap.size, rfl, ?_, hA.keepBut hk7 ?_ ?_ (hX.out b2 (.inl hb2l)), her, hC.one, hX.one, fun b hb => ⟨hC.out b (.inl hb), hX.out b (.inl hb)⟩, by omega, by have := hk6.size; omega⟩, ((hkw2.tr hS5.1).tr hk6).trB hk7 hb2w⟩
    · exact ((hvv.keep hk6 (fun k hk => ⟨hk.2, by simp⟩)).keep hk7 (fun k hk => ⟨by have := hk6.size; omega, by simp; omega⟩)).mono fun b hb => ⟨by omega, hb.2⟩
    · have := hC.out b2 (.inl hb2l); omega
    · have := hC.out b2 (.inl hb2l); omega
  intro fin
  have hkw3 := hkw2.tr hS.1
  rcases Nat.eq_zero_or_pos vs.length with h0 | h0
  · have hn : vs = [] := List.eq_nil_of_length_eq_zero h0
    subst hn
    refine dr_op 3 rfl (by decide +kernel) rfl rfl (opTo_app0 84 2 24 rfl rfl rfl (by decide +kernel) ⟨fun _ => hS, ?_⟩)
    exact fin _ _ ⟨_, ⟨none, 0, rfl, by simp, fun h => absurd h (by simp)⟩, ⟨_, _, _, rfl⟩, hS, rfl, rfl, rfl, trivial⟩
  · have hv3 := hv.keep hkw3 hF.stays
    have hget : vs[0]? = some vs[0] := List.getElem?_eq_getElem h0
    obtain ⟨bb, q, cap', hvv, _, _⟩ := hv3.at hget
    cases hvv
    have hone : ∀ u ∈ vs.flatMap vcell, u.oneCell' = true := by
      intro u hu
      obtain ⟨y, _, hy⟩ := List.mem_flatMap.1 hu
      exact vcell_one y u hy
    have hfl : (vs.flatMap vcell).length = vs.length * 2 := flat_length fun p _ => rfl
    refine dr_op 3 rfl (by decide +kernel) rfl rfl (opTo_app (b2 + 1) 84 2 24 [] (vs.flatMap vcell) rfl rfl rfl (by decide +kernel) (Own.nil _ _ _ _) (vars_flat hv3) hfl hone h0 (by unfold maxLen; omega) (by omega) (by have := hS.1.size; omega) ?_)
    intro g4 cap4 w4 ho4 hor4
    have hk4 : Keep [] w3 w4 := by
      rcases hor4 with ⟨h, _⟩ | ⟨_, h, _⟩
      · cases h
      · exact h
    have hS4 := And.intro (hS.1.tr hk4) (hk4.blk hS.2 (by simp))
    refine ⟨fun _ => hS4, ?_⟩
    have hvv : VarsV (fun b => b2 + 1 ≤ b ∧ b < w4.heap.size) w4 (.slice (some ⟨g4, 0, none⟩) (0 + vs.length) cap4) vs := by
      rw [Nat.zero_add, List.nil_append] at ho4
      rw [Nat.zero_add]
      exact vars_of_own ho4
    exact fin _ _ ⟨_, hvv, ⟨_, _, _, rfl⟩, hS4, rfl, rfl, rfl, trivial⟩
end E
end Go.Proofs.Ytpbdjpoohpocfab
