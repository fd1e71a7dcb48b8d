/- Several texts in one: RfD, RfS, RfE. -/
import Derived.Test.YthbkcadiejfgaacGreatDoorJ10
import Derived.Test.YthbkcadiejfgaacGreatDoorJ15
/- Contracts of the document's sameExpr, sameList. -/
namespace Go.Proofs.YthbkcadiejfgaacGreatDoor
set_option maxRecDepth 20000
set_option maxHeartbeats 4000000
namespace E
open Go.Proofs

theorem sameExpr_ret : ∀ (s : Nat) (t : ET), szE t ≤ s → szE t ≤ 100000 → ∀ {F F' : Nat → Prop} {w : World} {cs cs' : List Value} {u : ET}, ExprV F w cs t → ExprV F' w cs' u → In F w → In F' w →
    Ret Tryz.prog 47 [.agg cs.toArray, .agg cs'.toArray] w fun r w' => r = .bool (eqE t u) ∧ Keep [] w w' := by
  intro s
  induction s with
  | zero => intro t ht; have := szE_pos t; omega
  | succ s ih =>
    intro t ht ht3 F F' w cs cs' u h h' hF hF'
    obtain ⟨op, v, n, l⟩ := t
    obtain ⟨op', v', n', l'⟩ := u
    obtain ⟨lv, rfl, hl⟩ := h.inv
    obtain ⟨lv', rfl, hl'⟩ := h'.inv
    obtain ⟨a, ca, rfl⟩ := hl.form
    obtain ⟨b, cb, rfl⟩ := hl'.form
    simp only [szE] at ht ht3
    have hlen := szEs_len l
    refine ret_of 53 Tryz.func47 rfl rfl (by simp) ?_
    (repeat (first | refine pl_pure hT rfl rfl rfl ?_ | refine pl_nil ?_ | refine rn_seq ?_ | refine rn_plain ?_ | refine rn_block ?_ | refine rn_inBlock ?_ | refine rn_skip ?_ | refine rn_true rfl ?_ | refine rn_false rfl ?_ | refine rn_exit rfl ?_ | refine pl_not rfl rfl ?_))
    refine pl_op rfl rfl (opTo_boxN [.int .i64 op, .int .i64 v, .int .i64 n, .slice a l.length ca] rfl rfl rfl ?_)
    intro w1 x1 hx1 hs1 hk1 hX1'
    refine pl_op rfl rfl (opTo_boxN [.int .i64 op', .int .i64 v', .int .i64 n', .slice b l'.length cb] rfl rfl rfl ?_)
    intro w2 x2 hx2 hs2 hk2 hX2
    have hX1 := hk2.blk hX1' (by simp)
    have hk := hk1.tr hk2
    clear hX1' hk1 hk2
    by_cases h1 : op = op'
    · by_cases h2 : v = v'
      · by_cases h3 : n = n'
        · by_cases h4 : l.length = l'.length
          · (repeat (first | refine pl_pure hT rfl rfl rfl ?_ | refine pl_nil ?_ | refine rn_seq ?_ | refine rn_plain ?_ | refine rn_block ?_ | refine rn_inBlock ?_ | refine rn_skip ?_ | refine rn_true rfl ?_ | refine rn_false rfl ?_ | refine rn_exit rfl ?_ | refine pl_not rfl rfl ?_ | refine pl_val _ rfl rfl (val_load1 hT rfl rfl rfl (Blk.cell (by assumption) (by rfl))) ?_ | refine pl_yes rfl rfl rfl rfl rfl (by first | (simp only [cmpP]; omega) | (simp [cmpP]; done) | (simp [cmpP]; omega)) ?_ | refine pl_no rfl rfl rfl rfl rfl rfl (by first | (simp only [cmpP]; omega) | (simp [cmpP]; done) | (simp [cmpP]; omega)) ?_))
            have heq : eqE (.mk op v n l) (.mk op' v' n' l') = eqEs l l' := by simp [eqE, h1, h2, h3]
            rw [heq]
            refine rn_ind (fun m σ w' => ∃ i : Nat, i ≤ l.length ∧ m = l.length - i ∧ σ = [(2, .pointer (some ⟨x1, 0, none⟩)), (3, .pointer (some ⟨x2, 0, none⟩)), (5, .int .i64 (i : Nat))] ∧ eqEs (l.take i) (l'.take i) = true ∧ Keep [] w2 w') l.length _ ?_ ⟨0, by omega, by omega, rfl, by simp [eqEs], Keep.refl _ _⟩ ?_
            · exact ⟨rfl, rfl, rfl, trivial⟩
            rintro m σ w3 ih2 ⟨i, hi, rfl, rfl, htk, hk3⟩
            (repeat (first | refine pl_pure hT rfl rfl rfl ?_ | refine pl_nil ?_ | refine rn_seq ?_ | refine rn_plain ?_ | refine rn_block ?_ | refine rn_inBlock ?_ | refine rn_skip ?_ | refine rn_true rfl ?_ | refine rn_false rfl ?_ | refine rn_exit rfl ?_ | refine pl_not rfl rfl ?_))
            refine pl_val _ rfl rfl (val_load1 hT rfl rfl rfl ((hk3.blk hX1 (by simp)).cell rfl)) ?_
            (repeat (first | refine pl_pure hT rfl rfl rfl ?_ | refine pl_nil ?_ | refine rn_seq ?_ | refine rn_plain ?_ | refine rn_block ?_ | refine rn_inBlock ?_ | refine rn_skip ?_ | refine rn_true rfl ?_ | refine rn_false rfl ?_ | refine rn_exit rfl ?_ | refine pl_not rfl rfl ?_))
            by_cases hlt : i < l.length
            · refine pl_yes rfl rfl rfl rfl rfl (by first | (simp only [cmpP]; omega) | (simp [cmpP]; done) | (simp [cmpP]; omega)) ?_
              (repeat (first | refine pl_pure hT rfl rfl rfl ?_ | refine pl_nil ?_ | refine rn_seq ?_ | refine rn_plain ?_ | refine rn_block ?_ | refine rn_inBlock ?_ | refine rn_skip ?_ | refine rn_true rfl ?_ | refine rn_false rfl ?_ | refine rn_exit rfl ?_ | refine pl_not rfl rfl ?_))
              have hlt2 : i < l'.length := by omega
              have hx : l[i]? = some l[i] := List.getElem?_eq_getElem hlt
              have hy : l'[i]? = some l'[i] := List.getElem?_eq_getElem hlt2
              have hsz := szEs_at hx
              have hsp := eqEs_split h4 hx hy
              have htk2 := eqEs_take h4 hx hy
              rw [htk, Bool.true_and] at hsp htk2
              have hkw3 := hk.tr hk3
              obtain ⟨b1, q1, _, ci, hv1, hF1, hr1, hc1⟩ := hl.at hx
              cases hv1
              obtain ⟨b2, q2, _, cj, hv2, hF2, hr2, hc2⟩ := hl'.at hy
              cases hv2
              refine rn_draw (fun w' => Keep [] w3 w') [] hMix ?_
              have hS : Keep [] w3 w3.drew := (Keep.refl _ _).drew
              generalize w3.drew = w4 at *
              refine dr_pure 0 hT rfl (by decide +kernel) rfl rfl rfl ?_
              refine dr_val 1 _ rfl (by decide +kernel) rfl rfl (fun w9 hS9 => val_load1 hT rfl rfl rfl (((hk3.tr hS9).blk hX1 (by simp)).cell rfl)) hS ?_
              refine dr_pure 2 hT rfl (by decide +kernel) rfl rfl rfl ?_
              refine dr_any 3 _ rfl (by decide +kernel) rfl rfl (fun w => val_index i hT rfl rfl rfl rfl rfl hlt w) ?_
              refine dr_val 4 (.agg ci.toArray) rfl (by decide +kernel) rfl rfl (fun w9 hS9 => val_load ci hT rfl rfl (by rw [hc1.length]; rfl) (range_keep hr1 (hkw3.tr hS9) (hF _ hF1) (by simp))) hS ?_
              refine dr_pure 5 hT rfl (by decide +kernel) rfl rfl rfl ?_
              refine dr_val 6 _ rfl (by decide +kernel) rfl rfl (fun w9 hS9 => val_load1 hT rfl rfl rfl (((hk3.tr hS9).blk hX2 (by simp)).cell rfl)) hS ?_
              refine dr_pure 7 hT rfl (by decide +kernel) rfl rfl rfl ?_
              refine dr_any 8 _ rfl (by decide +kernel) rfl rfl (fun w => val_index i hT rfl rfl rfl rfl rfl hlt2 w) ?_
              refine dr_val 9 (.agg cj.toArray) rfl (by decide +kernel) rfl rfl (fun w9 hS9 => val_load cj hT rfl rfl (by rw [hc2.length]; rfl) (range_keep hr2 (hkw3.tr hS9) (hF' _ hF2) (by simp))) hS ?_
              refine dr_op 10 rfl (by decide +kernel) rfl rfl (opTo_call rfl rfl rfl rfl (by decide +kernel) ((ih l[i] (by omega) (by omega) (hc1.keep (hkw3.tr hS) hF.stays) (hc2.keep (hkw3.tr hS) hF'.stays) (hF.keep (hkw3.tr hS)) (hF'.keep (hkw3.tr hS))).mono ?_))
              rintro v5 w5 ⟨rfl, hk5⟩
              refine ⟨fun _ => hS.tr hk5, ?_⟩
              refine dr_pure 11 hT rfl (by decide +kernel) rfl rfl rfl ?_
              refine dr_done (by decide +kernel) ?_
              have hk35 := (hk3.tr hS).tr hk5
              cases hq : eqE l[i] l'[i] with
              | false =>
                (repeat (first | refine pl_pure hT rfl rfl rfl ?_ | refine pl_nil ?_ | refine rn_seq ?_ | refine rn_plain ?_ | refine rn_block ?_ | refine rn_inBlock ?_ | refine rn_skip ?_ | refine rn_true rfl ?_ | refine rn_false rfl ?_ | refine rn_exit rfl ?_ | refine pl_not rfl rfl ?_))
                exact rn_ret Tryz.func47 (.inl ⟨_, rfl, rfl⟩) ⟨by rw [hsp, hq]; rfl, hk.tr hk35⟩
              | true =>
                (repeat (first | refine pl_pure hT rfl rfl rfl ?_ | refine pl_nil ?_ | refine rn_seq ?_ | refine rn_plain ?_ | refine rn_block ?_ | refine rn_inBlock ?_ | refine rn_skip ?_ | refine rn_true rfl ?_ | refine rn_false rfl ?_ | refine rn_exit rfl ?_ | refine pl_not rfl rfl ?_))
                refine pl_num (((i + 1 : Nat) : Int)) rfl rfl rfl rfl rfl (by simp only [ariP]; omega) ?_
                (repeat (first | refine pl_pure hT rfl rfl rfl ?_ | refine pl_nil ?_ | refine rn_seq ?_ | refine rn_plain ?_ | refine rn_block ?_ | refine rn_inBlock ?_ | refine rn_skip ?_ | refine rn_true rfl ?_ | refine rn_false rfl ?_ | refine rn_exit rfl ?_ | refine pl_not rfl rfl ?_))
                refine rn_sub ?_ (ih2 (l.length - (i + 1)) [(2, .pointer (some ⟨x1, 0, none⟩)), (3, .pointer (some ⟨x2, 0, none⟩)), (5, .int .i64 ((i + 1 : Nat) : Int))] w5 (by omega) ⟨i + 1, by omega, rfl, rfl, by rw [htk2, hq], hk35⟩)
                exact ⟨rfl, rfl, rfl, trivial⟩
            · refine pl_no rfl rfl rfl rfl rfl rfl (by first | (simp only [cmpP]; omega) | (simp [cmpP]; done) | (simp [cmpP]; omega)) ?_
              (repeat (first | refine pl_pure hT rfl rfl rfl ?_ | refine pl_nil ?_ | refine rn_seq ?_ | refine rn_plain ?_ | refine rn_block ?_ | refine rn_inBlock ?_ | refine rn_skip ?_ | refine rn_true rfl ?_ | refine rn_false rfl ?_ | refine rn_exit rfl ?_ | refine pl_not rfl rfl ?_))
              rw [List.take_of_length_le (by omega), List.take_of_length_le (by omega)] at htk
              exact rn_ret Tryz.func47 (.inl ⟨_, rfl, rfl⟩) ⟨by rw [htk], hk.tr hk3⟩
          · (repeat (first | refine pl_pure hT rfl rfl rfl ?_ | refine pl_nil ?_ | refine rn_seq ?_ | refine rn_plain ?_ | refine rn_block ?_ | refine rn_inBlock ?_ | refine rn_skip ?_ | refine rn_true rfl ?_ | refine rn_false rfl ?_ | refine rn_exit rfl ?_ | refine pl_not rfl rfl ?_ | refine pl_val _ rfl rfl (val_load1 hT rfl rfl rfl (Blk.cell (by assumption) (by rfl))) ?_ | refine pl_yes rfl rfl rfl rfl rfl (by first | (simp only [cmpP]; omega) | (simp [cmpP]; done) | (simp [cmpP]; omega)) ?_ | refine pl_no rfl rfl rfl rfl rfl rfl (by first | (simp only [cmpP]; omega) | (simp [cmpP]; done) | (simp [cmpP]; omega)) ?_))
            exact rn_ret Tryz.func47 (.inl ⟨_, rfl, rfl⟩) ⟨by simp [eqE, eqEs_ne h4], hk⟩
        · (repeat (first | refine pl_pure hT rfl rfl rfl ?_ | refine pl_nil ?_ | refine rn_seq ?_ | refine rn_plain ?_ | refine rn_block ?_ | refine rn_inBlock ?_ | refine rn_skip ?_ | refine rn_true rfl ?_ | refine rn_false rfl ?_ | refine rn_exit rfl ?_ | refine pl_not rfl rfl ?_ | refine pl_val _ rfl rfl (val_load1 hT rfl rfl rfl (Blk.cell (by assumption) (by rfl))) ?_ | refine pl_yes rfl rfl rfl rfl rfl (by first | (simp only [cmpP]; omega) | (simp [cmpP]; done) | (simp [cmpP]; omega)) ?_ | refine pl_no rfl rfl rfl rfl rfl rfl (by first | (simp only [cmpP]; omega) | (simp [cmpP]; done) | (simp [cmpP]; omega)) ?_))
          exact rn_ret Tryz.func47 (.inl ⟨_, rfl, rfl⟩) ⟨by simp [eqE, h3], hk⟩
      · (repeat (first | refine pl_pure hT rfl rfl rfl ?_ | refine pl_nil ?_ | refine rn_seq ?_ | refine rn_plain ?_ | refine rn_block ?_ | refine rn_inBlock ?_ | refine rn_skip ?_ | refine rn_true rfl ?_ | refine rn_false rfl ?_ | refine rn_exit rfl ?_ | refine pl_not rfl rfl ?_ | refine pl_val _ rfl rfl (val_load1 hT rfl rfl rfl (Blk.cell (by assumption) (by rfl))) ?_ | refine pl_yes rfl rfl rfl rfl rfl (by first | (simp only [cmpP]; omega) | (simp [cmpP]; done) | (simp [cmpP]; omega)) ?_ | refine pl_no rfl rfl rfl rfl rfl rfl (by first | (simp only [cmpP]; omega) | (simp [cmpP]; done) | (simp [cmpP]; omega)) ?_))
        exact rn_ret Tryz.func47 (.inl ⟨_, rfl, rfl⟩) ⟨by simp [eqE, h2], hk⟩
    · (repeat (first | refine pl_pure hT rfl rfl rfl ?_ | refine pl_nil ?_ | refine rn_seq ?_ | refine rn_plain ?_ | refine rn_block ?_ | refine rn_inBlock ?_ | refine rn_skip ?_ | refine rn_true rfl ?_ | refine rn_false rfl ?_ | refine rn_exit rfl ?_ | refine pl_not rfl rfl ?_ | refine pl_val _ rfl rfl (val_load1 hT rfl rfl rfl (Blk.cell (by assumption) (by rfl))) ?_ | refine pl_yes rfl rfl rfl rfl rfl (by first | (simp only [cmpP]; omega) | (simp [cmpP]; done) | (simp [cmpP]; omega)) ?_ | refine pl_no rfl rfl rfl rfl rfl rfl (by first | (simp only [cmpP]; omega) | (simp [cmpP]; done) | (simp [cmpP]; omega)) ?_))
      exact rn_ret Tryz.func47 (.inl ⟨_, rfl, rfl⟩) ⟨by simp [eqE, h1], hk⟩

theorem sameList_ret : ∀ (s : Nat) (l : List ST), szSs l < s → szSs l ≤ 100000 → ∀ {F F' : Nat → Prop} {w : World} {x y : Value} {l' : List ST}, StmtsV F w x l → StmtsV F' w y l' → In F w → In F' w →
    Ret Tryz.prog 25 [x, y] w fun r w' => r = .bool (eqSs l l') ∧ Keep [] w w' := by
  intro s
  induction s with
  | zero => intro l hl; omega
  | succ s ih =>
    intro l hl hl3 F F' w x y l' h h' hF hF'
    obtain ⟨a, ca, rfl⟩ := h.form
    obtain ⟨b, cb, rfl⟩ := h'.form
    have hlen := szSs_len l
    refine ret_of 97 Tryz.func25 rfl rfl (by simp) ?_
    (repeat (first | refine pl_pure hT rfl rfl rfl ?_ | refine pl_nil ?_ | refine rn_seq ?_ | refine rn_plain ?_ | refine rn_block ?_ | refine rn_inBlock ?_ | refine rn_skip ?_ | refine rn_true rfl ?_ | refine rn_false rfl ?_ | refine rn_exit rfl ?_ | refine pl_not rfl rfl ?_))
    by_cases hn : l.length = l'.length
    · refine pl_no rfl rfl rfl rfl rfl rfl (by first | (simp only [cmpP]; omega) | (simp [cmpP]; done) | (simp [cmpP]; omega)) ?_
      (repeat (first | refine pl_pure hT rfl rfl rfl ?_ | refine pl_nil ?_ | refine rn_seq ?_ | refine rn_plain ?_ | refine rn_block ?_ | refine rn_inBlock ?_ | refine rn_skip ?_ | refine rn_true rfl ?_ | refine rn_false rfl ?_ | refine rn_exit rfl ?_ | refine pl_not rfl rfl ?_))
      refine rn_ind (fun m σ w' => ∃ i : Nat, i ≤ l.length ∧ m = l.length - i ∧ σ = [(0, .slice a l.length ca), (1, .slice b l'.length cb), (5, .int .i64 (i : Nat))] ∧ eqSs (l.take i) (l'.take i) = true ∧ Keep [] w w') l.length _ ?_ ⟨0, by omega, by omega, rfl, by simp [eqSs], Keep.refl _ _⟩ ?_
      · exact ⟨rfl, rfl, rfl, trivial⟩
      rintro m σ w2 ih2 ⟨i, hi, rfl, rfl, htk, hk2⟩
      (repeat (first | refine pl_pure hT rfl rfl rfl ?_ | refine pl_nil ?_ | refine rn_seq ?_ | refine rn_plain ?_ | refine rn_block ?_ | refine rn_inBlock ?_ | refine rn_skip ?_ | refine rn_true rfl ?_ | refine rn_false rfl ?_ | refine rn_exit rfl ?_ | refine pl_not rfl rfl ?_))
      by_cases hlt : i < l.length
      · refine pl_yes rfl rfl rfl rfl rfl (by first | (simp only [cmpP]; omega) | (simp [cmpP]; done) | (simp [cmpP]; omega)) ?_
        (repeat (first | refine pl_pure hT rfl rfl rfl ?_ | refine pl_nil ?_ | refine rn_seq ?_ | refine rn_plain ?_ | refine rn_block ?_ | refine rn_inBlock ?_ | refine rn_skip ?_ | refine rn_true rfl ?_ | refine rn_false rfl ?_ | refine rn_exit rfl ?_ | refine pl_not rfl rfl ?_))
        have hlt2 : i < l'.length := by omega
        have hx : l[i]? = some l[i] := List.getElem?_eq_getElem hlt
        have hy : l'[i]? = some l'[i] := List.getElem?_eq_getElem hlt2
        have hsz := szSs_at hx
        obtain ⟨op, v, e, f, lb, lo, hs⟩ : ∃ op v e f lb lo, l[i] = ST.mk op v e f lb lo := by cases l[i]; exact ⟨_, _, _, _, _, _, rfl⟩
        obtain ⟨op', v', e', f', lb', lo', hs'⟩ : ∃ op v e f lb lo, l'[i] = ST.mk op v e f lb lo := by cases l'[i]; exact ⟨_, _, _, _, _, _, rfl⟩
        rw [hs] at hx hsz
        rw [hs'] at hy
        simp only [szS] at hsz
        have hsp := eqSs_split hn hx hy
        have htk2 := eqSs_take hn hx hy
        rw [htk, Bool.true_and] at hsp htk2
        obtain ⟨b1, q1, _, ce, cf, bv, ov, hv1, hA⟩ := (h.keep hk2 hF.stays).stmtAt hx
        cases hv1
        obtain ⟨b2, q2, _, ce', cf', bv', ov', hv2, hB⟩ := (h'.keep hk2 hF'.stays).stmtAt hy
        cases hv2
        have hFA2 := hF.keep hk2
        have hFB2 := hF'.keep hk2
        refine rn_draw (fun w' => Keep [] w2 w') [] hMix ?_
        have hS : Keep [] w2 w2.drew := (Keep.refl _ _).drew
        generalize w2.drew = w3 at *
        refine dr_with 0 1208925819614629174706175 (fun σ' w' => ∃ d : Bool, d = ((((((!(op == op')) || !(v == v')) || !eqE e e') || !eqE f f') || !eqSs lb lb') || !eqSs lo lo') ∧ Keep [] w2 w' ∧ Sub ([(0, .slice (some ⟨b1, q1, none⟩) l.length ca), (1, .slice (some ⟨b2, q2, none⟩) l'.length cb), (5, .int .i64 (i : Nat)), (96, .bool d)]) σ') ?_ ?_
        · rintro σ' w5 ⟨d, hd, hS, hsub⟩
          refine dr_sub hsub ?_
          refine dr_done (by decide +kernel) ?_
          have hdq : d = !eqS (.mk op v e f lb lo) (.mk op' v' e' f' lb' lo') := by
            rw [hd]
            simp only [eqS]
            cases (op == op') <;> cases (v == v') <;> cases eqE e e' <;> cases eqE f f' <;> cases eqSs lb lb' <;> cases eqSs lo lo' <;> rfl
          cases d with
          | true =>
            (repeat (first | refine pl_pure hT rfl rfl rfl ?_ | refine pl_nil ?_ | refine rn_seq ?_ | refine rn_plain ?_ | refine rn_block ?_ | refine rn_inBlock ?_ | refine rn_skip ?_ | refine rn_true rfl ?_ | refine rn_false rfl ?_ | refine rn_exit rfl ?_ | refine pl_not rfl rfl ?_))
            refine rn_ret Tryz.func25 (.inl ⟨_, rfl, rfl⟩) ⟨?_, hk2.tr hS⟩
            have hq : eqS (.mk op v e f lb lo) (.mk op' v' e' f' lb' lo') = false := by
              revert hdq
              cases eqS (.mk op v e f lb lo) (.mk op' v' e' f' lb' lo') <;> simp
            rw [hsp, hq]
            rfl
          | false =>
            (repeat (first | refine pl_pure hT rfl rfl rfl ?_ | refine pl_nil ?_ | refine rn_seq ?_ | refine rn_plain ?_ | refine rn_block ?_ | refine rn_inBlock ?_ | refine rn_skip ?_ | refine rn_true rfl ?_ | refine rn_false rfl ?_ | refine rn_exit rfl ?_ | refine pl_not rfl rfl ?_))
            refine pl_num (((i + 1 : Nat) : Int)) rfl rfl rfl rfl rfl (by simp only [ariP]; omega) ?_
            (repeat (first | refine pl_pure hT rfl rfl rfl ?_ | refine pl_nil ?_ | refine rn_seq ?_ | refine rn_plain ?_ | refine rn_block ?_ | refine rn_inBlock ?_ | refine rn_skip ?_ | refine rn_true rfl ?_ | refine rn_false rfl ?_ | refine rn_exit rfl ?_ | refine pl_not rfl rfl ?_))
            have hq : eqS (.mk op v e f lb lo) (.mk op' v' e' f' lb' lo') = true := by
              revert hdq
              cases eqS (.mk op v e f lb lo) (.mk op' v' e' f' lb' lo') <;> simp
            refine rn_sub ?_ (ih2 (l.length - (i + 1)) [(0, .slice (some ⟨b1, q1, none⟩) l.length ca), (1, .slice (some ⟨b2, q2, none⟩) l'.length cb), (5, .int .i64 ((i + 1 : Nat) : Int))] w5 (by omega) ⟨i + 1, by omega, rfl, rfl, by rw [htk2, hq], hk2.tr hS⟩)
            exact ⟨rfl, rfl, rfl, trivial⟩
        intro f5
        refine dr_with 13 147573952589676412927 (fun σ' w' => ∃ d : Bool, d = (((((!(op == op')) || !(v == v')) || !eqE e e') || !eqE f f') || !eqSs lb lb') ∧ Keep [] w2 w' ∧ Sub ([(0, .slice (some ⟨b1, q1, none⟩) l.length ca), (1, .slice (some ⟨b2, q2, none⟩) l'.length cb), (5, .int .i64 (i : Nat)), (83, .bool d)]) σ') ?_ ?_
        · rintro σ' w5 ⟨d, hd, hS, hsub⟩
          refine dr_sub hsub ?_
          cases d with
          | true =>
            refine dr_not 67 rfl (by decide +kernel) rfl rfl ?_
            refine dr_not 68 rfl (by decide +kernel) rfl rfl ?_
            refine dr_not 69 rfl (by decide +kernel) rfl rfl ?_
            refine dr_not 70 rfl (by decide +kernel) rfl rfl ?_
            refine dr_not 71 rfl (by decide +kernel) rfl rfl ?_
            refine dr_not 72 rfl (by decide +kernel) rfl rfl ?_
            refine dr_not 73 rfl (by decide +kernel) rfl rfl ?_
            refine dr_not 74 rfl (by decide +kernel) rfl rfl ?_
            refine dr_not 75 rfl (by decide +kernel) rfl rfl ?_
            refine dr_not 76 rfl (by decide +kernel) rfl rfl ?_
            refine dr_not 77 rfl (by decide +kernel) rfl rfl ?_
            refine dr_not 78 rfl (by decide +kernel) rfl rfl ?_
            refine dr_pure 79 hT rfl (by decide +kernel) rfl rfl rfl ?_
            exact f5 _ _ ⟨_, by rw [← hd]; rfl, hS, rfl, rfl, rfl, rfl, trivial⟩
          | false =>
            refine dr_pure 67 hT rfl (by decide +kernel) rfl rfl rfl ?_
            refine dr_pure 68 hT rfl (by decide +kernel) rfl rfl rfl ?_
            refine dr_any 69 _ rfl (by decide +kernel) rfl rfl (fun w => val_index i hT rfl rfl rfl rfl rfl hlt w) ?_
            refine dr_pure 70 hT rfl (by decide +kernel) rfl rfl rfl ?_
            refine dr_val 71 _ rfl (by decide +kernel) rfl rfl (fun w9 hS9 => val_load1 hT rfl rfl rfl (hA.keep hS9 hFA2.stays).co) hS ?_
            refine dr_pure 72 hT rfl (by decide +kernel) rfl rfl rfl ?_
            refine dr_pure 73 hT rfl (by decide +kernel) rfl rfl rfl ?_
            refine dr_any 74 _ rfl (by decide +kernel) rfl rfl (fun w => val_index i hT rfl rfl rfl rfl rfl hlt2 w) ?_
            refine dr_pure 75 hT rfl (by decide +kernel) rfl rfl rfl ?_
            refine dr_val 76 _ rfl (by decide +kernel) rfl rfl (fun w9 hS9 => val_load1 hT rfl rfl rfl (hB.keep hS9 hFB2.stays).co) hS ?_
            refine dr_op 77 rfl (by decide +kernel) rfl rfl (opTo_call rfl rfl rfl rfl (by decide +kernel) ((ih lo (by omega) (by omega) (hA.keep hS hFA2.stays).ho (hB.keep hS hFB2.stays).ho (hFA2.keep hS) (hFB2.keep hS)).mono ?_))
            rintro v6 w6 ⟨rfl, hk6⟩
            replace hS := hS.tr hk6
            refine ⟨fun _ => hS, ?_⟩
            refine dr_pure 78 hT rfl (by decide +kernel) rfl rfl rfl ?_
            refine dr_pure 79 hT rfl (by decide +kernel) rfl rfl rfl ?_
            exact f5 _ _ ⟨_, by rw [← hd]; rfl, hS, rfl, rfl, rfl, rfl, trivial⟩
        intro f4
        clear f5
        refine dr_with 27 9007199254740991 (fun σ' w' => ∃ d : Bool, d = ((((!(op == op')) || !(v == v')) || !eqE e e') || !eqE f f') ∧ Keep [] w2 w' ∧ Sub ([(0, .slice (some ⟨b1, q1, none⟩) l.length ca), (1, .slice (some ⟨b2, q2, none⟩) l'.length cb), (5, .int .i64 (i : Nat)), (69, .bool d)]) σ') ?_ ?_
        · rintro σ' w5 ⟨d, hd, hS, hsub⟩
          refine dr_sub hsub ?_
          cases d with
          | true =>
            refine dr_not 53 rfl (by decide +kernel) rfl rfl ?_
            refine dr_not 54 rfl (by decide +kernel) rfl rfl ?_
            refine dr_not 55 rfl (by decide +kernel) rfl rfl ?_
            refine dr_not 56 rfl (by decide +kernel) rfl rfl ?_
            refine dr_not 57 rfl (by decide +kernel) rfl rfl ?_
            refine dr_not 58 rfl (by decide +kernel) rfl rfl ?_
            refine dr_not 59 rfl (by decide +kernel) rfl rfl ?_
            refine dr_not 60 rfl (by decide +kernel) rfl rfl ?_
            refine dr_not 61 rfl (by decide +kernel) rfl rfl ?_
            refine dr_not 62 rfl (by decide +kernel) rfl rfl ?_
            refine dr_not 63 rfl (by decide +kernel) rfl rfl ?_
            refine dr_not 64 rfl (by decide +kernel) rfl rfl ?_
            refine dr_pure 65 hT rfl (by decide +kernel) rfl rfl rfl ?_
            refine dr_pure 66 hT rfl (by decide +kernel) rfl rfl rfl ?_
            exact f4 _ _ ⟨_, by rw [← hd]; rfl, hS, rfl, rfl, rfl, rfl, trivial⟩
          | false =>
            refine dr_pure 53 hT rfl (by decide +kernel) rfl rfl rfl ?_
            refine dr_pure 54 hT rfl (by decide +kernel) rfl rfl rfl ?_
            refine dr_any 55 _ rfl (by decide +kernel) rfl rfl (fun w => val_index i hT rfl rfl rfl rfl rfl hlt w) ?_
            refine dr_pure 56 hT rfl (by decide +kernel) rfl rfl rfl ?_
            refine dr_val 57 _ rfl (by decide +kernel) rfl rfl (fun w9 hS9 => val_load1 hT rfl rfl rfl (hA.keep hS9 hFA2.stays).cb) hS ?_
            refine dr_pure 58 hT rfl (by decide +kernel) rfl rfl rfl ?_
            refine dr_pure 59 hT rfl (by decide +kernel) rfl rfl rfl ?_
            refine dr_any 60 _ rfl (by decide +kernel) rfl rfl (fun w => val_index i hT rfl rfl rfl rfl rfl hlt2 w) ?_
            refine dr_pure 61 hT rfl (by decide +kernel) rfl rfl rfl ?_
            refine dr_val 62 _ rfl (by decide +kernel) rfl rfl (fun w9 hS9 => val_load1 hT rfl rfl rfl (hB.keep hS9 hFB2.stays).cb) hS ?_
            refine dr_op 63 rfl (by decide +kernel) rfl rfl (opTo_call rfl rfl rfl rfl (by decide +kernel) ((ih lb (by omega) (by omega) (hA.keep hS hFA2.stays).hb (hB.keep hS hFB2.stays).hb (hFA2.keep hS) (hFB2.keep hS)).mono ?_))
            rintro v6 w6 ⟨rfl, hk6⟩
            replace hS := hS.tr hk6
            refine ⟨fun _ => hS, ?_⟩
            refine dr_pure 64 hT rfl (by decide +kernel) rfl rfl rfl ?_
            refine dr_pure 65 hT rfl (by decide +kernel) rfl rfl rfl ?_
            refine dr_pure 66 hT rfl (by decide +kernel) rfl rfl rfl ?_
            exact f4 _ _ ⟨_, by rw [← hd]; rfl, hS, rfl, rfl, rfl, rfl, trivial⟩
        intro f3
        clear f4
        refine dr_with 41 549755813887 (fun σ' w' => ∃ d : Bool, d = (((!(op == op')) || !(v == v')) || !eqE e e') ∧ Keep [] w2 w' ∧ Sub ([(0, .slice (some ⟨b1, q1, none⟩) l.length ca), (1, .slice (some ⟨b2, q2, none⟩) l'.length cb), (5, .int .i64 (i : Nat)), (55, .bool d)]) σ') ?_ ?_
        · rintro σ' w5 ⟨d, hd, hS, hsub⟩
          refine dr_sub hsub ?_
          cases d with
          | true =>
            refine dr_not 39 rfl (by decide +kernel) rfl rfl ?_
            refine dr_not 40 rfl (by decide +kernel) rfl rfl ?_
            refine dr_not 41 rfl (by decide +kernel) rfl rfl ?_
            refine dr_not 42 rfl (by decide +kernel) rfl rfl ?_
            refine dr_not 43 rfl (by decide +kernel) rfl rfl ?_
            refine dr_not 44 rfl (by decide +kernel) rfl rfl ?_
            refine dr_not 45 rfl (by decide +kernel) rfl rfl ?_
            refine dr_not 46 rfl (by decide +kernel) rfl rfl ?_
            refine dr_not 47 rfl (by decide +kernel) rfl rfl ?_
            refine dr_not 48 rfl (by decide +kernel) rfl rfl ?_
            refine dr_not 49 rfl (by decide +kernel) rfl rfl ?_
            refine dr_not 50 rfl (by decide +kernel) rfl rfl ?_
            refine dr_pure 51 hT rfl (by decide +kernel) rfl rfl rfl ?_
            refine dr_pure 52 hT rfl (by decide +kernel) rfl rfl rfl ?_
            exact f3 _ _ ⟨_, by rw [← hd]; rfl, hS, rfl, rfl, rfl, rfl, trivial⟩
          | false =>
            refine dr_pure 39 hT rfl (by decide +kernel) rfl rfl rfl ?_
            refine dr_pure 40 hT rfl (by decide +kernel) rfl rfl rfl ?_
            refine dr_any 41 _ rfl (by decide +kernel) rfl rfl (fun w => val_index i hT rfl rfl rfl rfl rfl hlt w) ?_
            refine dr_pure 42 hT rfl (by decide +kernel) rfl rfl rfl ?_
            refine dr_val 43 (.agg cf.toArray) rfl (by decide +kernel) rfl rfl (fun w9 hS9 => val_load cf hT rfl rfl (by rw [hA.hf.length]; rfl) (hA.keep hS9 hFA2.stays).rf) hS ?_
            refine dr_pure 44 hT rfl (by decide +kernel) rfl rfl rfl ?_
            refine dr_pure 45 hT rfl (by decide +kernel) rfl rfl rfl ?_
            refine dr_any 46 _ rfl (by decide +kernel) rfl rfl (fun w => val_index i hT rfl rfl rfl rfl rfl hlt2 w) ?_
            refine dr_pure 47 hT rfl (by decide +kernel) rfl rfl rfl ?_
            refine dr_val 48 (.agg cf'.toArray) rfl (by decide +kernel) rfl rfl (fun w9 hS9 => val_load cf' hT rfl rfl (by rw [hB.hf.length]; rfl) (hB.keep hS9 hFB2.stays).rf) hS ?_
            refine dr_op 49 rfl (by decide +kernel) rfl rfl (opTo_call rfl rfl rfl rfl (by decide +kernel) ((sameExpr_ret _ f (Nat.le_refl _) (by omega) (hA.keep hS hFA2.stays).hf (hB.keep hS hFB2.stays).hf (hFA2.keep hS) (hFB2.keep hS)).mono ?_))
            rintro v6 w6 ⟨rfl, hk6⟩
            replace hS := hS.tr hk6
            refine ⟨fun _ => hS, ?_⟩
            refine dr_pure 50 hT rfl (by decide +kernel) rfl rfl rfl ?_
            refine dr_pure 51 hT rfl (by decide +kernel) rfl rfl rfl ?_
            refine dr_pure 52 hT rfl (by decide +kernel) rfl rfl rfl ?_
            exact f3 _ _ ⟨_, by rw [← hd]; rfl, hS, rfl, rfl, rfl, rfl, trivial⟩
        intro f2
        clear f3
        refine dr_with 55 33554431 (fun σ' w' => ∃ d : Bool, d = ((!(op == op')) || !(v == v')) ∧ Keep [] w2 w' ∧ Sub ([(0, .slice (some ⟨b1, q1, none⟩) l.length ca), (1, .slice (some ⟨b2, q2, none⟩) l'.length cb), (5, .int .i64 (i : Nat)), (41, .bool d)]) σ') ?_ ?_
        · rintro σ' w5 ⟨d, hd, hS, hsub⟩
          refine dr_sub hsub ?_
          cases d with
          | true =>
            refine dr_not 25 rfl (by decide +kernel) rfl rfl ?_
            refine dr_not 26 rfl (by decide +kernel) rfl rfl ?_
            refine dr_not 27 rfl (by decide +kernel) rfl rfl ?_
            refine dr_not 28 rfl (by decide +kernel) rfl rfl ?_
            refine dr_not 29 rfl (by decide +kernel) rfl rfl ?_
            refine dr_not 30 rfl (by decide +kernel) rfl rfl ?_
            refine dr_not 31 rfl (by decide +kernel) rfl rfl ?_
            refine dr_not 32 rfl (by decide +kernel) rfl rfl ?_
            refine dr_not 33 rfl (by decide +kernel) rfl rfl ?_
            refine dr_not 34 rfl (by decide +kernel) rfl rfl ?_
            refine dr_not 35 rfl (by decide +kernel) rfl rfl ?_
            refine dr_not 36 rfl (by decide +kernel) rfl rfl ?_
            refine dr_pure 37 hT rfl (by decide +kernel) rfl rfl rfl ?_
            refine dr_pure 38 hT rfl (by decide +kernel) rfl rfl rfl ?_
            exact f2 _ _ ⟨_, by rw [← hd]; rfl, hS, rfl, rfl, rfl, rfl, trivial⟩
          | false =>
            refine dr_pure 25 hT rfl (by decide +kernel) rfl rfl rfl ?_
            refine dr_pure 26 hT rfl (by decide +kernel) rfl rfl rfl ?_
            refine dr_any 27 _ rfl (by decide +kernel) rfl rfl (fun w => val_index i hT rfl rfl rfl rfl rfl hlt w) ?_
            refine dr_pure 28 hT rfl (by decide +kernel) rfl rfl rfl ?_
            refine dr_val 29 (.agg ce.toArray) rfl (by decide +kernel) rfl rfl (fun w9 hS9 => val_load ce hT rfl rfl (by rw [hA.he.length]; rfl) (hA.keep hS9 hFA2.stays).re) hS ?_
            refine dr_pure 30 hT rfl (by decide +kernel) rfl rfl rfl ?_
            refine dr_pure 31 hT rfl (by decide +kernel) rfl rfl rfl ?_
            refine dr_any 32 _ rfl (by decide +kernel) rfl rfl (fun w => val_index i hT rfl rfl rfl rfl rfl hlt2 w) ?_
            refine dr_pure 33 hT rfl (by decide +kernel) rfl rfl rfl ?_
            refine dr_val 34 (.agg ce'.toArray) rfl (by decide +kernel) rfl rfl (fun w9 hS9 => val_load ce' hT rfl rfl (by rw [hB.he.length]; rfl) (hB.keep hS9 hFB2.stays).re) hS ?_
            refine dr_op 35 rfl (by decide +kernel) rfl rfl (opTo_call rfl rfl rfl rfl (by decide +kernel) ((sameExpr_ret _ e (Nat.le_refl _) (by omega) (hA.keep hS hFA2.stays).he (hB.keep hS hFB2.stays).he (hFA2.keep hS) (hFB2.keep hS)).mono ?_))
            rintro v6 w6 ⟨rfl, hk6⟩
            replace hS := hS.tr hk6
            refine ⟨fun _ => hS, ?_⟩
            refine dr_pure 36 hT rfl (by decide +kernel) rfl rfl rfl ?_
            refine dr_pure 37 hT rfl (by decide +kernel) rfl rfl rfl ?_
            refine dr_pure 38 hT rfl (by decide +kernel) rfl rfl rfl ?_
            exact f2 _ _ ⟨_, by rw [← hd]; rfl, hS, rfl, rfl, rfl, rfl, trivial⟩
        intro f1
        clear f2
        refine dr_pure 0 hT rfl (by decide +kernel) rfl rfl rfl ?_
        refine dr_pure 1 hT rfl (by decide +kernel) rfl rfl rfl ?_
        refine dr_any 2 _ rfl (by decide +kernel) rfl rfl (fun w => val_index i hT rfl rfl rfl rfl rfl hlt w) ?_
        refine dr_pure 3 hT rfl (by decide +kernel) rfl rfl rfl ?_
        refine dr_val 4 _ rfl (by decide +kernel) rfl rfl (fun w9 hS9 => val_load1 hT rfl rfl rfl (hA.keep hS9 hFA2.stays).cop) hS ?_
        refine dr_pure 5 hT rfl (by decide +kernel) rfl rfl rfl ?_
        refine dr_pure 6 hT rfl (by decide +kernel) rfl rfl rfl ?_
        refine dr_any 7 _ rfl (by decide +kernel) rfl rfl (fun w => val_index i hT rfl rfl rfl rfl rfl hlt2 w) ?_
        refine dr_pure 8 hT rfl (by decide +kernel) rfl rfl rfl ?_
        refine dr_val 9 _ rfl (by decide +kernel) rfl rfl (fun w9 hS9 => val_load1 hT rfl rfl rfl (hB.keep hS9 hFB2.stays).cop) hS ?_
        by_cases hop : op = op'
        · refine dr_no 10 rfl (by decide +kernel) rfl rfl rfl rfl rfl rfl (by first | (simp only [cmpP]; omega) | (simp [cmpP]; done) | (simp [cmpP]; omega)) ?_
          refine dr_pure 11 hT rfl (by decide +kernel) rfl rfl rfl ?_
          refine dr_pure 12 hT rfl (by decide +kernel) rfl rfl rfl ?_
          refine dr_pure 13 hT rfl (by decide +kernel) rfl rfl rfl ?_
          refine dr_any 14 _ rfl (by decide +kernel) rfl rfl (fun w => val_index i hT rfl rfl rfl rfl rfl hlt w) ?_
          refine dr_pure 15 hT rfl (by decide +kernel) rfl rfl rfl ?_
          refine dr_val 16 _ rfl (by decide +kernel) rfl rfl (fun w9 hS9 => val_load1 hT rfl rfl rfl (hA.keep hS9 hFA2.stays).cv) hS ?_
          refine dr_pure 17 hT rfl (by decide +kernel) rfl rfl rfl ?_
          refine dr_pure 18 hT rfl (by decide +kernel) rfl rfl rfl ?_
          refine dr_any 19 _ rfl (by decide +kernel) rfl rfl (fun w => val_index i hT rfl rfl rfl rfl rfl hlt2 w) ?_
          refine dr_pure 20 hT rfl (by decide +kernel) rfl rfl rfl ?_
          refine dr_val 21 _ rfl (by decide +kernel) rfl rfl (fun w9 hS9 => val_load1 hT rfl rfl rfl (hB.keep hS9 hFB2.stays).cv) hS ?_
          refine dr_any 22 (.bool (!(v == v'))) rfl (by decide +kernel) rfl rfl (fun w => val_int .i64 _ _ _ rfl rfl rfl (by simp only [intOp]; rfl) w) ?_
          refine dr_pure 23 hT rfl (by decide +kernel) rfl rfl rfl ?_
          refine dr_pure 24 hT rfl (by decide +kernel) rfl rfl rfl ?_
          exact f1 _ _ ⟨_, by simp [hop], hS, rfl, rfl, rfl, rfl, trivial⟩
        · refine dr_yes 10 rfl (by decide +kernel) rfl rfl rfl rfl rfl (by first | (simp only [cmpP]; omega) | (simp [cmpP]; done) | (simp [cmpP]; omega)) ?_
          refine dr_pure 11 hT rfl (by decide +kernel) rfl rfl rfl ?_
          refine dr_not 12 rfl (by decide +kernel) rfl rfl ?_
          refine dr_not 13 rfl (by decide +kernel) rfl rfl ?_
          refine dr_not 14 rfl (by decide +kernel) rfl rfl ?_
          refine dr_not 15 rfl (by decide +kernel) rfl rfl ?_
          refine dr_not 16 rfl (by decide +kernel) rfl rfl ?_
          refine dr_not 17 rfl (by decide +kernel) rfl rfl ?_
          refine dr_not 18 rfl (by decide +kernel) rfl rfl ?_
          refine dr_not 19 rfl (by decide +kernel) rfl rfl ?_
          refine dr_not 20 rfl (by decide +kernel) rfl rfl ?_
          refine dr_not 21 rfl (by decide +kernel) rfl rfl ?_
          refine dr_not 22 rfl (by decide +kernel) rfl rfl ?_
          refine dr_pure 23 hT rfl (by decide +kernel) rfl rfl rfl ?_
          refine dr_pure 24 hT rfl (by decide +kernel) rfl rfl rfl ?_
          exact f1 _ _ ⟨_, by simp [hop], hS, rfl, rfl, rfl, rfl, trivial⟩
      · refine pl_no rfl rfl rfl rfl rfl rfl (by first | (simp only [cmpP]; omega) | (simp [cmpP]; done) | (simp [cmpP]; omega)) ?_
        (repeat (first | refine pl_pure hT rfl rfl rfl ?_ | refine pl_nil ?_ | refine rn_seq ?_ | refine rn_plain ?_ | refine rn_block ?_ | refine rn_inBlock ?_ | refine rn_skip ?_ | refine rn_true rfl ?_ | refine rn_false rfl ?_ | refine rn_exit rfl ?_ | refine pl_not rfl rfl ?_))
        rw [List.take_of_length_le (by omega), List.take_of_length_le (by omega)] at htk
        exact rn_ret Tryz.func25 (.inl ⟨_, rfl, rfl⟩) ⟨by rw [htk], hk2⟩
    · refine pl_yes rfl rfl rfl rfl rfl (by first | (simp only [cmpP]; omega) | (simp [cmpP]; done) | (simp [cmpP]; omega)) ?_
      (repeat (first | refine pl_pure hT rfl rfl rfl ?_ | refine pl_nil ?_ | refine rn_seq ?_ | refine rn_plain ?_ | refine rn_block ?_ | refine rn_inBlock ?_ | refine rn_skip ?_ | refine rn_true rfl ?_ | refine rn_false rfl ?_ | refine rn_exit rfl ?_ | refine pl_not rfl rfl ?_))
      exact rn_ret Tryz.func25 (.inl ⟨_, rfl, rfl⟩) ⟨by rw [eqSs_ne hn], Keep.refl _ _⟩
end E
end Go.Proofs.YthbkcadiejfgaacGreatDoor

/- Contract of the document's Same. -/
namespace Go.Proofs.YthbkcadiejfgaacGreatDoor
set_option maxRecDepth 20000
set_option maxHeartbeats 4000000
namespace E
open Go.Proofs

theorem refSame_ret {F F' : Nat → Prop} {w : World} {x y : Value} {vs vs' : List VarT} {body body' : List ST} (h : ProgV F w x vs body) (h' : ProgV F' w y vs' body') (hF : In F w) (hF' : In F' w) (h30 : vs.length ≤ 100000) (hsz : szSs body ≤ 100000) :
    Ret Tryz.prog 8 [x, y] w fun r w' => r = .bool (eqP vs body vs' body') ∧ Keep [] w w' := by
  obtain ⟨vv, bv, rfl, hv, hb⟩ := h
  obtain ⟨vv', bv', rfl, hv', hb'⟩ := h'
  obtain ⟨av, capv, rfl⟩ := hv.form
  obtain ⟨ab, capb, rfl⟩ := hb.form
  obtain ⟨av', capv', rfl⟩ := hv'.form
  obtain ⟨ab', capb', rfl⟩ := hb'.form
  refine ret_of 39 Tryz.func8 rfl rfl (by simp) ?_
  (repeat (first | refine pl_pure hT rfl rfl rfl ?_ | refine pl_nil ?_ | refine rn_seq ?_ | refine rn_plain ?_ | refine rn_block ?_ | refine rn_inBlock ?_ | refine rn_skip ?_ | refine rn_true rfl ?_ | refine rn_false rfl ?_ | refine rn_exit rfl ?_ | refine pl_not rfl rfl ?_))
  refine pl_op rfl rfl (opTo_boxN [.slice av vs.length capv, .slice ab body.length capb] rfl rfl rfl ?_)
  intro w1 p1 hp1 hs1 hk1 hB1'
  refine pl_op rfl rfl (opTo_boxN [.slice av' vs'.length capv', .slice ab' body'.length capb'] rfl rfl rfl ?_)
  intro w2 p2 hp2 hs2 hk2 hB2
  have hB1 := hk2.blk hB1' (by simp)
  have hk := hk1.tr hk2
  clear hB1' hk1 hk2
  unfold eqP
  by_cases hn : vs.length = vs'.length
  · (repeat (first | refine pl_pure hT rfl rfl rfl ?_ | refine pl_nil ?_ | refine rn_seq ?_ | refine rn_plain ?_ | refine rn_block ?_ | refine rn_inBlock ?_ | refine rn_skip ?_ | refine rn_true rfl ?_ | refine rn_false rfl ?_ | refine rn_exit rfl ?_ | refine pl_not rfl rfl ?_ | refine pl_val _ rfl rfl (val_load1 hT rfl rfl rfl (Blk.cell (by assumption) (by rfl))) ?_ | refine pl_yes rfl rfl rfl rfl rfl (by first | (simp only [cmpP]; omega) | (simp [cmpP]; done) | (simp [cmpP]; omega)) ?_ | refine pl_no rfl rfl rfl rfl rfl rfl (by first | (simp only [cmpP]; omega) | (simp [cmpP]; done) | (simp [cmpP]; omega)) ?_))
    refine pl_op rfl rfl (opTo_call rfl rfl rfl rfl (by decide +kernel) ((sameList_ret _ body (Nat.lt_succ_self _) hsz (hb.keep hk hF.stays) (hb'.keep hk hF'.stays) (hF.keep hk) (hF'.keep hk)).mono ?_))
    rintro v3 w3 ⟨rfl, hk3⟩
    have hk3w := hk.tr hk3
    cases hq : eqSs body body' with
    | false =>
      (repeat (first | refine pl_pure hT rfl rfl rfl ?_ | refine pl_nil ?_ | refine rn_seq ?_ | refine rn_plain ?_ | refine rn_block ?_ | refine rn_inBlock ?_ | refine rn_skip ?_ | refine rn_true rfl ?_ | refine rn_false rfl ?_ | refine rn_exit rfl ?_ | refine pl_not rfl rfl ?_))
      exact rn_ret Tryz.func8 (.inl ⟨_, rfl, rfl⟩) ⟨by simp, hk3w⟩
    | true =>
      rw [Bool.and_true]
      (repeat (first | refine pl_pure hT rfl rfl rfl ?_ | refine pl_nil ?_ | refine rn_seq ?_ | refine rn_plain ?_ | refine rn_block ?_ | refine rn_inBlock ?_ | refine rn_skip ?_ | refine rn_true rfl ?_ | refine rn_false rfl ?_ | refine rn_exit rfl ?_ | refine pl_not rfl rfl ?_))
      refine rn_ind (fun m σ w' => ∃ i : Nat, i ≤ vs.length ∧ m = vs.length - i ∧ σ = [(2, .pointer (some ⟨p1, 0, none⟩)), (3, .pointer (some ⟨p2, 0, none⟩)), (5, .int .i64 (i : Nat))] ∧ eqVs (vs.take i) (vs'.take i) = true ∧ Keep [] w2 w') vs.length _ ?_ ⟨0, by omega, by omega, rfl, by simp [eqVs], hk3⟩ ?_
      · exact ⟨rfl, rfl, rfl, trivial⟩
      rintro m σ w4 ih ⟨i, hi, rfl, rfl, heq, hk4⟩
      have hk4w := hk.tr hk4
      (repeat (first | refine pl_pure hT rfl rfl rfl ?_ | refine pl_nil ?_ | refine rn_seq ?_ | refine rn_plain ?_ | refine rn_block ?_ | refine rn_inBlock ?_ | refine rn_skip ?_ | refine rn_true rfl ?_ | refine rn_false rfl ?_ | refine rn_exit rfl ?_ | refine pl_not rfl rfl ?_))
      refine pl_val _ rfl rfl (val_load1 hT rfl rfl rfl ((hk4.blk hB1 (by simp)).cell rfl)) ?_
      (repeat (first | refine pl_pure hT rfl rfl rfl ?_ | refine pl_nil ?_ | refine rn_seq ?_ | refine rn_plain ?_ | refine rn_block ?_ | refine rn_inBlock ?_ | refine rn_skip ?_ | refine rn_true rfl ?_ | refine rn_false rfl ?_ | refine rn_exit rfl ?_ | refine pl_not rfl rfl ?_))
      by_cases hlt : i < vs.length
      · refine pl_yes rfl rfl rfl rfl rfl (by first | (simp only [cmpP]; omega) | (simp [cmpP]; done) | (simp [cmpP]; omega)) ?_
        (repeat (first | refine pl_pure hT rfl rfl rfl ?_ | refine pl_nil ?_ | refine rn_seq ?_ | refine rn_plain ?_ | refine rn_block ?_ | refine rn_inBlock ?_ | refine rn_skip ?_ | refine rn_true rfl ?_ | refine rn_false rfl ?_ | refine rn_exit rfl ?_ | refine pl_not rfl rfl ?_))
        have hx : vs[i]? = some vs[i] := List.getElem?_eq_getElem hlt
        have hy : vs'[i]? = some (vs'[i]'(by omega)) := List.getElem?_eq_getElem (by omega)
        obtain ⟨b1, q1, _, hvv, hF1, hr1⟩ := hv.at hx
        cases hvv
        obtain ⟨b2, q2, _, hvv, hF2, hr2⟩ := hv'.at hy
        cases hvv
        have hsp := eqVs_split hn hx hy
        have htk := eqVs_take hn hx hy
        rw [heq, Bool.true_and] at hsp htk
        generalize vs[i] = u at *
        generalize vs'[i]'(by omega) = z at *
        obtain ⟨us, uz⟩ := u
        obtain ⟨zs, zz⟩ := z
        refine rn_draw (fun w' => Keep [] w4 w') [] hMix ?_
        have hS : Keep [] w4 w4.drew := (Keep.refl _ _).drew
        generalize w4.drew = w5 at *
        refine dr_pure 0 hT rfl (by decide +kernel) rfl rfl rfl ?_
        refine dr_val 1 _ rfl (by decide +kernel) rfl rfl (fun w9 hS9 => val_load1 hT rfl rfl rfl (((hk4.tr hS9).blk hB1 (by simp)).cell rfl)) hS ?_
        refine dr_pure 2 hT rfl (by decide +kernel) rfl rfl rfl ?_
        refine dr_any 3 _ rfl (by decide +kernel) rfl rfl (fun w => val_index i hT rfl rfl rfl rfl rfl hlt w) ?_
        refine dr_val 4 (.agg #[.string us, .int .i64 uz]) rfl (by decide +kernel) rfl rfl (fun w9 hS9 => val_load (vcell (us, uz)) hT rfl rfl rfl (range_keep hr1 (hk4w.tr hS9) (hF _ hF1) (by simp))) hS ?_
        refine dr_pure 5 hT rfl (by decide +kernel) rfl rfl rfl ?_
        refine dr_val 6 _ rfl (by decide +kernel) rfl rfl (fun w9 hS9 => val_load1 hT rfl rfl rfl (((hk4.tr hS9).blk hB2 (by simp)).cell rfl)) hS ?_
        refine dr_pure 7 hT rfl (by decide +kernel) rfl rfl rfl ?_
        refine dr_any 8 _ rfl (by decide +kernel) rfl rfl (fun w => val_index i hT rfl rfl rfl rfl rfl (by omega) w) ?_
        refine dr_val 9 (.agg #[.string zs, .int .i64 zz]) rfl (by decide +kernel) rfl rfl (fun w9 hS9 => val_load (vcell (zs, zz)) hT rfl rfl rfl (range_keep hr2 (hk4w.tr hS9) (hF' _ hF2) (by simp))) hS ?_
        refine dr_any 10 (.bool (!(eqV (us, uz) (zs, zz)))) rfl (by decide +kernel) rfl rfl (fun w => val_nePair us zs uz zz _ (by decide +kernel) rfl rfl rfl rfl w) ?_
        refine dr_done (by decide +kernel) ?_
        cases hqv : eqV (us, uz) (zs, zz) with
        | false =>
          (repeat (first | refine pl_pure hT rfl rfl rfl ?_ | refine pl_nil ?_ | refine rn_seq ?_ | refine rn_plain ?_ | refine rn_block ?_ | refine rn_inBlock ?_ | refine rn_skip ?_ | refine rn_true rfl ?_ | refine rn_false rfl ?_ | refine rn_exit rfl ?_ | refine pl_not rfl rfl ?_))
          exact rn_ret Tryz.func8 (.inl ⟨_, rfl, rfl⟩) ⟨by rw [hsp, hqv]; rfl, hk4w.tr hS⟩
        | true =>
          (repeat (first | refine pl_pure hT rfl rfl rfl ?_ | refine pl_nil ?_ | refine rn_seq ?_ | refine rn_plain ?_ | refine rn_block ?_ | refine rn_inBlock ?_ | refine rn_skip ?_ | refine rn_true rfl ?_ | refine rn_false rfl ?_ | refine rn_exit rfl ?_ | refine pl_not rfl rfl ?_))
          refine pl_num (((i + 1 : Nat) : Int)) rfl rfl rfl rfl rfl (by simp only [ariP]; omega) ?_
          (repeat (first | refine pl_pure hT rfl rfl rfl ?_ | refine pl_nil ?_ | refine rn_seq ?_ | refine rn_plain ?_ | refine rn_block ?_ | refine rn_inBlock ?_ | refine rn_skip ?_ | refine rn_true rfl ?_ | refine rn_false rfl ?_ | refine rn_exit rfl ?_ | refine pl_not rfl rfl ?_))
          refine rn_sub ?_ (ih (vs.length - (i + 1)) [(2, .pointer (some ⟨p1, 0, none⟩)), (3, .pointer (some ⟨p2, 0, none⟩)), (5, .int .i64 ((i + 1 : Nat) : Int))] w5 (by omega) ⟨i + 1, by omega, rfl, rfl, by rw [htk, hqv], hk4.tr hS⟩)
          exact ⟨rfl, rfl, rfl, trivial⟩
      · refine pl_no rfl rfl rfl rfl rfl rfl (by first | (simp only [cmpP]; omega) | (simp [cmpP]; done) | (simp [cmpP]; omega)) ?_
        (repeat (first | refine pl_pure hT rfl rfl rfl ?_ | refine pl_nil ?_ | refine rn_seq ?_ | refine rn_plain ?_ | refine rn_block ?_ | refine rn_inBlock ?_ | refine rn_skip ?_ | refine rn_true rfl ?_ | refine rn_false rfl ?_ | refine rn_exit rfl ?_ | refine pl_not rfl rfl ?_))
        rw [List.take_of_length_le (by omega), List.take_of_length_le (by omega)] at heq
        exact rn_ret Tryz.func8 (.inl ⟨_, rfl, rfl⟩) ⟨by rw [heq], hk4w⟩
  · (repeat (first | refine pl_pure hT rfl rfl rfl ?_ | refine pl_nil ?_ | refine rn_seq ?_ | refine rn_plain ?_ | refine rn_block ?_ | refine rn_inBlock ?_ | refine rn_skip ?_ | refine rn_true rfl ?_ | refine rn_false rfl ?_ | refine rn_exit rfl ?_ | refine pl_not rfl rfl ?_ | refine pl_val _ rfl rfl (val_load1 hT rfl rfl rfl (Blk.cell (by assumption) (by rfl))) ?_ | refine pl_yes rfl rfl rfl rfl rfl (by first | (simp only [cmpP]; omega) | (simp [cmpP]; done) | (simp [cmpP]; omega)) ?_ | refine pl_no rfl rfl rfl rfl rfl rfl (by first | (simp only [cmpP]; omega) | (simp [cmpP]; done) | (simp [cmpP]; omega)) ?_))
    refine rn_ret Tryz.func8 (.inl ⟨_, rfl, rfl⟩) ⟨?_, hk⟩
    have : eqVs vs vs' = false := by
      cases he : eqVs vs vs' with
      | false => rfl
      | true => exact absurd (eqVs_len he) hn
    rw [this]
    rfl
end E
end Go.Proofs.YthbkcadiejfgaacGreatDoor

/- Contracts of the document's ProgramFault and Same. -/
namespace Go.Proofs.YthbkcadiejfgaacGreatDoor
set_option maxRecDepth 20000
set_option maxHeartbeats 4000000
namespace E
open Go.Proofs

theorem built_looking (a b : Option Addr) (m c m' c' : Nat) : Tryz.prog.built tLk [(0, .agg #[.slice a m c, .slice b m' c'])] = some [Value.slice a m c, .slice b m' c', .int .i64 0, .int .i64 0].toArray := by kernel_rfl

theorem refFault_ret {F : Nat → Prop} {w : World} {x : Value} {vs : List VarT} {body : List ST} (h : ProgV F w x vs body) (hF : In F w) (hnm : ∀ y ∈ vs, y.1.size ≤ 100000) (hsz : szSs body ≤ 100000) :
    Ret Tryz.prog 14 [x] w fun r w' => r = .int .i64 (progFault vs body) ∧ Keep [] w w' := by
  obtain ⟨vv, bv, rfl, hv, hb⟩ := h
  obtain ⟨av, capv, rfl⟩ := hv.form
  obtain ⟨ab, capb, rfl⟩ := hb.form
  refine ret_of 72 Tryz.func14 rfl rfl (by simp) ?_
  (repeat (first | refine pl_pure hT rfl rfl rfl ?_ | refine pl_nil ?_ | refine rn_seq ?_ | refine rn_plain ?_ | refine rn_block ?_ | refine rn_inBlock ?_ | refine rn_skip ?_ | refine rn_true rfl ?_ | refine rn_false rfl ?_ | refine rn_exit rfl ?_ | refine pl_not rfl rfl ?_))
  refine pl_op rfl rfl (opTo_boxN [.slice av vs.length capv, .slice ab body.length capb] rfl rfl rfl ?_)
  intro w1 p hp hs1 hk1 hB1
  (repeat (first | refine pl_pure hT rfl rfl rfl ?_ | refine pl_nil ?_ | refine rn_seq ?_ | refine rn_plain ?_ | refine rn_block ?_ | refine rn_inBlock ?_ | refine rn_skip ?_ | refine rn_true rfl ?_ | refine rn_false rfl ?_ | refine rn_exit rfl ?_ | refine pl_not rfl rfl ?_))
  refine pl_val _ rfl rfl (val_load1 hT rfl rfl rfl (hB1.cell rfl)) ?_
  (repeat (first | refine pl_pure hT rfl rfl rfl ?_ | refine pl_nil ?_ | refine rn_seq ?_ | refine rn_plain ?_ | refine rn_block ?_ | refine rn_inBlock ?_ | refine rn_skip ?_ | refine rn_true rfl ?_ | refine rn_false rfl ?_ | refine rn_exit rfl ?_ | refine pl_not rfl rfl ?_))
  unfold progFault
  by_cases h8 : vs.length > 8
  · rw [if_pos h8]
    refine pl_yes rfl rfl rfl rfl rfl (by first | (simp only [cmpP]; omega) | (simp [cmpP]; done) | (simp [cmpP]; omega)) ?_
    (repeat (first | refine pl_pure hT rfl rfl rfl ?_ | refine pl_nil ?_ | refine rn_seq ?_ | refine rn_plain ?_ | refine rn_block ?_ | refine rn_inBlock ?_ | refine rn_skip ?_ | refine rn_true rfl ?_ | refine rn_false rfl ?_ | refine rn_exit rfl ?_ | refine pl_not rfl rfl ?_))
    exact rn_ret Tryz.func14 (.inl ⟨_, rfl, rfl⟩) ⟨rfl, hk1⟩
  rw [if_neg h8]
  refine pl_no rfl rfl rfl rfl rfl rfl (by first | (simp only [cmpP]; omega) | (simp [cmpP]; done) | (simp [cmpP]; omega)) ?_
  (repeat (first | refine pl_pure hT rfl rfl rfl ?_ | refine pl_nil ?_ | refine rn_seq ?_ | refine rn_plain ?_ | refine rn_block ?_ | refine rn_inBlock ?_ | refine rn_skip ?_ | refine rn_true rfl ?_ | refine rn_false rfl ?_ | refine rn_exit rfl ?_ | refine pl_not rfl rfl ?_))
  refine rn_ind (fun m σ w' => ∃ i : Nat, i ≤ vs.length ∧ m = vs.length - i ∧ σ = [(1, .pointer (some ⟨p, 0, none⟩)), (3, .int .i64 (sumV (vs.take i))), (4, .int .i64 (i : Nat))] ∧
    chkV [] 0 vs = chkV ((vs.take i).map (·.1)) (sumV (vs.take i)) (vs.drop i) ∧ 0 ≤ sumV (vs.take i) ∧ sumV (vs.take i) ≤ 48 ∧ Blk w' p [.slice av vs.length capv, .slice ab body.length capb] 26 ∧ Keep [] w w') vs.length _ ?_ ⟨0, by omega, by omega, rfl, by simp [sumV], by simp [sumV], by simp [sumV], hB1, hk1⟩ ?_
  · exact ⟨rfl, rfl, rfl, trivial⟩
  rintro m σ w2 ih ⟨i, hi, rfl, rfl, hch, hs0, hs48, hB2, hk2⟩
  (repeat (first | refine pl_pure hT rfl rfl rfl ?_ | refine pl_nil ?_ | refine rn_seq ?_ | refine rn_plain ?_ | refine rn_block ?_ | refine rn_inBlock ?_ | refine rn_skip ?_ | refine rn_true rfl ?_ | refine rn_false rfl ?_ | refine rn_exit rfl ?_ | refine pl_not rfl rfl ?_))
  refine pl_val _ rfl rfl (val_load1 hT rfl rfl rfl (hB2.cell rfl)) ?_
  (repeat (first | refine pl_pure hT rfl rfl rfl ?_ | refine pl_nil ?_ | refine rn_seq ?_ | refine rn_plain ?_ | refine rn_block ?_ | refine rn_inBlock ?_ | refine rn_skip ?_ | refine rn_true rfl ?_ | refine rn_false rfl ?_ | refine rn_exit rfl ?_ | refine pl_not rfl rfl ?_))
  by_cases hlt : i < vs.length
  · refine pl_yes rfl rfl rfl rfl rfl (by first | (simp only [cmpP]; omega) | (simp [cmpP]; done) | (simp [cmpP]; omega)) ?_
    (repeat (first | refine pl_pure hT rfl rfl rfl ?_ | refine pl_nil ?_ | refine rn_seq ?_ | refine rn_plain ?_ | refine rn_block ?_ | refine rn_inBlock ?_ | refine rn_skip ?_ | refine rn_true rfl ?_ | refine rn_false rfl ?_ | refine rn_exit rfl ?_ | refine pl_not rfl rfl ?_))
    refine pl_val _ rfl rfl (val_load1 hT rfl rfl rfl (hB2.cell rfl)) ?_
    (repeat (first | refine pl_pure hT rfl rfl rfl ?_ | refine pl_nil ?_ | refine rn_seq ?_ | refine rn_plain ?_ | refine rn_block ?_ | refine rn_inBlock ?_ | refine rn_skip ?_ | refine rn_true rfl ?_ | refine rn_false rfl ?_ | refine rn_exit rfl ?_ | refine pl_not rfl rfl ?_))
    have hget : vs[i]? = some vs[i] := List.getElem?_eq_getElem hlt
    have hnmi := hnm vs[i] (List.getElem_mem _)
    obtain ⟨nm, sz, hnz⟩ : ∃ nm sz, vs[i] = (nm, sz) := ⟨_, _, rfl⟩
    rw [hnz] at hget hnmi
    replace hnmi : nm.size ≤ 100000 := hnmi
    rw [chkV_at hget] at hch
    have hsu : sumV (vs.take (i + 1)) = sumV (vs.take i) + sz := sumV_take_succ hget
    replace hch : chkV [] 0 vs = if nameOk nm = false then 8 else if (vs.take i).any (sameName (nm, sz)) = true then 9 else if sz < 1 ∨ sz > 48 ∨ sumV (vs.take i) + sz > 48 then 1 else chkV ((vs.take (i + 1)).map (·.1)) (sumV (vs.take (i + 1))) (vs.drop (i + 1)) := hch
    obtain ⟨bb, q, cap', hvv, hFb, hra⟩ := (hv.keep hk2 hF.stays).at hget
    cases hvv
    refine pl_val _ rfl rfl (val_index i hT rfl rfl rfl rfl rfl hlt w2) ?_
    refine pl_val _ rfl rfl (val_load (vcell (nm, sz)) hT rfl rfl rfl hra) ?_
    refine pl_op rfl rfl (opTo_allocN _ rfl zero_var ?_)
    intro w3 c hc3 hs3 hk3 hC3
    refine pl_op rfl rfl (opTo_storeN _ rfl rfl rfl rfl (by kernel_rfl) hC3 (by simp [vcell, varZ]) (vcell_one _) ?_)
    intro w4 hs4 hk4 hC4
    rw [splice_whole (by rfl)] at hC4
    have hk24 : Keep [] w2 w4 := hk3.trB hk4 (by omega)
    have hB4 := hk24.blk hB2 (by simp)
    have hk4w := hk2.tr hk24
    unfold vcell at hC4
    clear hk3 hk4 hC3
    (repeat (first | refine pl_pure hT rfl rfl rfl ?_ | refine pl_nil ?_ | refine rn_seq ?_ | refine rn_plain ?_ | refine rn_block ?_ | refine rn_inBlock ?_ | refine rn_skip ?_ | refine rn_true rfl ?_ | refine rn_false rfl ?_ | refine rn_exit rfl ?_ | refine pl_not rfl rfl ?_))
    refine pl_val _ rfl rfl (val_load1 hT rfl rfl rfl (hC4.cell rfl)) ?_
    refine pl_op rfl rfl (opTo_call rfl rfl rfl rfl (by decide +kernel) ((nameText_ret nm (by omega) w4).mono ?_))
    rintro v5 w5 ⟨rfl, rfl⟩
    cases hno : nameOk nm with
    | false =>
      (repeat (first | refine pl_pure hT rfl rfl rfl ?_ | refine pl_nil ?_ | refine rn_seq ?_ | refine rn_plain ?_ | refine rn_block ?_ | refine rn_inBlock ?_ | refine rn_skip ?_ | refine rn_true rfl ?_ | refine rn_false rfl ?_ | refine rn_exit rfl ?_ | refine pl_not rfl rfl ?_))
      refine rn_ret Tryz.func14 (.inl ⟨_, rfl, rfl⟩) ⟨?_, hk4w⟩
      have hcv : chkV [] 0 vs = 8 := by rw [hch, if_pos hno]
      rw [hcv]
      rfl
    | true =>
      rw [hno, if_neg (by simp)] at hch
      (repeat (first | refine pl_pure hT rfl rfl rfl ?_ | refine pl_nil ?_ | refine rn_seq ?_ | refine rn_plain ?_ | refine rn_block ?_ | refine rn_inBlock ?_ | refine rn_skip ?_ | refine rn_true rfl ?_ | refine rn_false rfl ?_ | refine rn_exit rfl ?_ | refine pl_not rfl rfl ?_))
      refine rn_ind (fun m σ w' => ∃ k : Nat, k ≤ i ∧ m = i - k ∧ σ = [(1, .pointer (some ⟨p, 0, none⟩)), (3, .int .i64 (sumV (vs.take i))), (4, .int .i64 (i : Nat)), (5, .pointer (some ⟨c, 0, none⟩)), (6, .int .i64 (k : Nat))] ∧ (vs.take k).any (sameName (nm, sz)) = false ∧ Keep [] w5 w') i _ ?_ ⟨0, by omega, by omega, rfl, by simp, Keep.refl _ _⟩ ?_
      · exact ⟨rfl, rfl, rfl, rfl, rfl, trivial⟩
      rintro m σ w6 ih3 ⟨k, hk, rfl, rfl, hany, hk6⟩
      (repeat (first | refine pl_pure hT rfl rfl rfl ?_ | refine pl_nil ?_ | refine rn_seq ?_ | refine rn_plain ?_ | refine rn_block ?_ | refine rn_inBlock ?_ | refine rn_skip ?_ | refine rn_true rfl ?_ | refine rn_false rfl ?_ | refine rn_exit rfl ?_ | refine pl_not rfl rfl ?_))
      by_cases hki : k < i
      · refine pl_yes rfl rfl rfl rfl rfl (by first | (simp only [cmpP]; omega) | (simp [cmpP]; done) | (simp [cmpP]; omega)) ?_
        (repeat (first | refine pl_pure hT rfl rfl rfl ?_ | refine pl_nil ?_ | refine rn_seq ?_ | refine rn_plain ?_ | refine rn_block ?_ | refine rn_inBlock ?_ | refine rn_skip ?_ | refine rn_true rfl ?_ | refine rn_false rfl ?_ | refine rn_exit rfl ?_ | refine pl_not rfl rfl ?_))
        have hgk : vs[k]? = some (vs[k]'(by omega)) := List.getElem?_eq_getElem (by omega)
        have hmem : vs[k]'(by omega) ∈ vs.take i := by
          rw [List.mem_iff_getElem?]
          exact ⟨k, by rw [List.getElem?_take, if_pos hki]; exact hgk⟩
        obtain ⟨b2, q2, _, hv2, hF2, hr2⟩ := hv.at hgk
        cases hv2
        have hsuk : (vs.take (k + 1)).any (sameName (nm, sz)) = sameName (nm, sz) (vs[k]'(by omega)) := by
          rw [List.take_succ_eq_append_getElem (by omega), List.any_append, hany]
          simp
        generalize vs[k]'(by omega) = y at *
        have hkw6 := hk4w.tr hk6
        refine rn_draw (fun w' => Keep [] w6 w') [] hMix ?_
        have hS : Keep [] w6 w6.drew := (Keep.refl _ _).drew
        generalize w6.drew = w7 at *
        refine dr_pure 0 hT rfl (by decide +kernel) rfl rfl rfl ?_
        refine dr_val 1 _ rfl (by decide +kernel) rfl rfl (fun w9 hS9 => val_load1 hT rfl rfl rfl (((hk6.tr hS9).blk hB4 (by simp)).cell rfl)) hS ?_
        refine dr_pure 2 hT rfl (by decide +kernel) rfl rfl rfl ?_
        refine dr_any 3 _ rfl (by decide +kernel) rfl rfl (fun w => val_index k hT rfl rfl rfl rfl rfl (by omega) w) ?_
        refine dr_pure 4 hT rfl (by decide +kernel) rfl rfl rfl ?_
        refine dr_val 5 (.string y.1) rfl (by decide +kernel) rfl rfl (fun w9 hS9 => val_load1 hT rfl rfl rfl (range_keep hr2 (hkw6.tr hS9) (hF _ hF2) (by simp) 0 (.string y.1) rfl)) hS ?_
        refine dr_pure 6 hT rfl (by decide +kernel) rfl rfl rfl ?_
        refine dr_val 7 _ rfl (by decide +kernel) rfl rfl (fun w9 hS9 => val_load1 hT rfl rfl rfl (((hk6.tr hS9).blk hC4 (by simp)).cell rfl)) hS ?_
        refine dr_any 8 (.bool (sameName (nm, sz) y)) rfl (by decide +kernel) rfl rfl (fun w => val_eqStr y.1 nm _ rfl rfl rfl rfl w) ?_
        refine dr_done (by decide +kernel) ?_
        cases hsn : sameName (nm, sz) y with
        | true =>
          (repeat (first | refine pl_pure hT rfl rfl rfl ?_ | refine pl_nil ?_ | refine rn_seq ?_ | refine rn_plain ?_ | refine rn_block ?_ | refine rn_inBlock ?_ | refine rn_skip ?_ | refine rn_true rfl ?_ | refine rn_false rfl ?_ | refine rn_exit rfl ?_ | refine pl_not rfl rfl ?_))
          refine rn_ret Tryz.func14 (.inl ⟨_, rfl, rfl⟩) ⟨?_, hkw6.tr hS⟩
          have hcv : chkV [] 0 vs = 9 := by rw [hch, if_pos (List.any_eq_true.2 ⟨_, hmem, hsn⟩)]
          rw [hcv]
          rfl
        | false =>
          (repeat (first | refine pl_pure hT rfl rfl rfl ?_ | refine pl_nil ?_ | refine rn_seq ?_ | refine rn_plain ?_ | refine rn_block ?_ | refine rn_inBlock ?_ | refine rn_skip ?_ | refine rn_true rfl ?_ | refine rn_false rfl ?_ | refine rn_exit rfl ?_ | refine pl_not rfl rfl ?_))
          refine pl_num (((k + 1 : Nat) : Int)) rfl rfl rfl rfl rfl (by simp only [ariP]; omega) ?_
          (repeat (first | refine pl_pure hT rfl rfl rfl ?_ | refine pl_nil ?_ | refine rn_seq ?_ | refine rn_plain ?_ | refine rn_block ?_ | refine rn_inBlock ?_ | refine rn_skip ?_ | refine rn_true rfl ?_ | refine rn_false rfl ?_ | refine rn_exit rfl ?_ | refine pl_not rfl rfl ?_))
          refine rn_sub ?_ (ih3 (i - (k + 1)) [(1, .pointer (some ⟨p, 0, none⟩)), (3, .int .i64 (sumV (vs.take i))), (4, .int .i64 (i : Nat)), (5, .pointer (some ⟨c, 0, none⟩)), (6, .int .i64 ((k + 1 : Nat) : Int))] w7 (by omega) ⟨k + 1, by omega, rfl, rfl, by rw [hsuk, hsn], hk6.tr hS⟩)
          exact ⟨rfl, rfl, rfl, rfl, rfl, trivial⟩
      · have hki' : k = i := by omega
        subst hki'
        rw [if_neg (by rw [hany]; simp)] at hch
        have hC6 := hk6.blk hC4 (by simp)
        have hB6 := hk6.blk hB4 (by simp)
        have hkw6 := hk4w.tr hk6
        refine pl_no rfl rfl rfl rfl rfl rfl (by first | (simp only [cmpP]; omega) | (simp [cmpP]; done) | (simp [cmpP]; omega)) ?_
        (repeat (first | refine pl_pure hT rfl rfl rfl ?_ | refine pl_nil ?_ | refine rn_seq ?_ | refine rn_plain ?_ | refine rn_block ?_ | refine rn_inBlock ?_ | refine rn_skip ?_ | refine rn_true rfl ?_ | refine rn_false rfl ?_ | refine rn_exit rfl ?_ | refine pl_not rfl rfl ?_))
        by_cases h1 : sz < 1
        · (repeat (first | refine pl_pure hT rfl rfl rfl ?_ | refine pl_nil ?_ | refine rn_seq ?_ | refine rn_plain ?_ | refine rn_block ?_ | refine rn_inBlock ?_ | refine rn_skip ?_ | refine rn_true rfl ?_ | refine rn_false rfl ?_ | refine rn_exit rfl ?_ | refine pl_not rfl rfl ?_ | refine pl_val _ rfl rfl (val_load1 hT rfl rfl rfl (Blk.cell (by assumption) (by rfl))) ?_ | refine pl_yes rfl rfl rfl rfl rfl (by first | (simp only [cmpP]; omega) | (simp [cmpP]; done) | (simp [cmpP]; omega)) ?_ | refine pl_no rfl rfl rfl rfl rfl rfl (by first | (simp only [cmpP]; omega) | (simp [cmpP]; done) | (simp [cmpP]; omega)) ?_))
          refine rn_ret Tryz.func14 (.inl ⟨_, rfl, rfl⟩) ⟨?_, hkw6⟩
          have hcv : chkV [] 0 vs = 1 := by rw [hch, if_pos (.inl h1)]
          rw [hcv]
          rfl
        · by_cases h2 : sz > 48
          · (repeat (first | refine pl_pure hT rfl rfl rfl ?_ | refine pl_nil ?_ | refine rn_seq ?_ | refine rn_plain ?_ | refine rn_block ?_ | refine rn_inBlock ?_ | refine rn_skip ?_ | refine rn_true rfl ?_ | refine rn_false rfl ?_ | refine rn_exit rfl ?_ | refine pl_not rfl rfl ?_ | refine pl_val _ rfl rfl (val_load1 hT rfl rfl rfl (Blk.cell (by assumption) (by rfl))) ?_ | refine pl_yes rfl rfl rfl rfl rfl (by first | (simp only [cmpP]; omega) | (simp [cmpP]; done) | (simp [cmpP]; omega)) ?_ | refine pl_no rfl rfl rfl rfl rfl rfl (by first | (simp only [cmpP]; omega) | (simp [cmpP]; done) | (simp [cmpP]; omega)) ?_))
            refine rn_ret Tryz.func14 (.inl ⟨_, rfl, rfl⟩) ⟨?_, hkw6⟩
            have hcv : chkV [] 0 vs = 1 := by rw [hch, if_pos (.inr (.inl h2))]
            rw [hcv]
            rfl
          · (repeat (first | refine pl_pure hT rfl rfl rfl ?_ | refine pl_nil ?_ | refine rn_seq ?_ | refine rn_plain ?_ | refine rn_block ?_ | refine rn_inBlock ?_ | refine rn_skip ?_ | refine rn_true rfl ?_ | refine rn_false rfl ?_ | refine rn_exit rfl ?_ | refine pl_not rfl rfl ?_ | refine pl_val _ rfl rfl (val_load1 hT rfl rfl rfl (Blk.cell (by assumption) (by rfl))) ?_ | refine pl_yes rfl rfl rfl rfl rfl (by first | (simp only [cmpP]; omega) | (simp [cmpP]; done) | (simp [cmpP]; omega)) ?_ | refine pl_no rfl rfl rfl rfl rfl rfl (by first | (simp only [cmpP]; omega) | (simp [cmpP]; done) | (simp [cmpP]; omega)) ?_))
            refine pl_num (sumV (vs.take (k + 1))) rfl rfl rfl rfl rfl (by simp only [ariP]; omega) ?_
            by_cases h3 : sumV (vs.take k) + sz > 48
            · (repeat (first | refine pl_pure hT rfl rfl rfl ?_ | refine pl_nil ?_ | refine rn_seq ?_ | refine rn_plain ?_ | refine rn_block ?_ | refine rn_inBlock ?_ | refine rn_skip ?_ | refine rn_true rfl ?_ | refine rn_false rfl ?_ | refine rn_exit rfl ?_ | refine pl_not rfl rfl ?_ | refine pl_val _ rfl rfl (val_load1 hT rfl rfl rfl (Blk.cell (by assumption) (by rfl))) ?_ | refine pl_yes rfl rfl rfl rfl rfl (by first | (simp only [cmpP]; omega) | (simp [cmpP]; done) | (simp [cmpP]; omega)) ?_ | refine pl_no rfl rfl rfl rfl rfl rfl (by first | (simp only [cmpP]; omega) | (simp [cmpP]; done) | (simp [cmpP]; omega)) ?_))
              refine rn_ret Tryz.func14 (.inl ⟨_, rfl, rfl⟩) ⟨?_, hkw6⟩
              have hcv : chkV [] 0 vs = 1 := by rw [hch, if_pos (.inr (.inr h3))]
              rw [hcv]
              rfl
            · rw [if_neg (by omega)] at hch
              (repeat (first | refine pl_pure hT rfl rfl rfl ?_ | refine pl_nil ?_ | refine rn_seq ?_ | refine rn_plain ?_ | refine rn_block ?_ | refine rn_inBlock ?_ | refine rn_skip ?_ | refine rn_true rfl ?_ | refine rn_false rfl ?_ | refine rn_exit rfl ?_ | refine pl_not rfl rfl ?_ | refine pl_val _ rfl rfl (val_load1 hT rfl rfl rfl (Blk.cell (by assumption) (by rfl))) ?_ | refine pl_yes rfl rfl rfl rfl rfl (by first | (simp only [cmpP]; omega) | (simp [cmpP]; done) | (simp [cmpP]; omega)) ?_ | refine pl_no rfl rfl rfl rfl rfl rfl (by first | (simp only [cmpP]; omega) | (simp [cmpP]; done) | (simp [cmpP]; omega)) ?_))
              refine pl_num (sumV (vs.take (k + 1))) rfl rfl rfl rfl rfl (by simp only [ariP]; omega) ?_
              (repeat (first | refine pl_pure hT rfl rfl rfl ?_ | refine pl_nil ?_ | refine rn_seq ?_ | refine rn_plain ?_ | refine rn_block ?_ | refine rn_inBlock ?_ | refine rn_skip ?_ | refine rn_true rfl ?_ | refine rn_false rfl ?_ | refine rn_exit rfl ?_ | refine pl_not rfl rfl ?_))
              refine pl_num (((k + 1 : Nat) : Int)) rfl rfl rfl rfl rfl (by simp only [ariP]; omega) ?_
              (repeat (first | refine pl_pure hT rfl rfl rfl ?_ | refine pl_nil ?_ | refine rn_seq ?_ | refine rn_plain ?_ | refine rn_block ?_ | refine rn_inBlock ?_ | refine rn_skip ?_ | refine rn_true rfl ?_ | refine rn_false rfl ?_ | refine rn_exit rfl ?_ | refine pl_not rfl rfl ?_))
              refine rn_sub ?_ (ih (vs.length - (k + 1)) [(1, .pointer (some ⟨p, 0, none⟩)), (3, .int .i64 (sumV (vs.take (k + 1)))), (4, .int .i64 ((k + 1 : Nat) : Int))] w6 (by omega) ⟨k + 1, by omega, rfl, rfl, hch, by omega, by omega, hB6, hkw6⟩)
              exact ⟨rfl, rfl, rfl, trivial⟩
  · refine pl_no rfl rfl rfl rfl rfl rfl (by first | (simp only [cmpP]; omega) | (simp [cmpP]; done) | (simp [cmpP]; omega)) ?_
    (repeat (first | refine pl_pure hT rfl rfl rfl ?_ | refine pl_nil ?_ | refine rn_seq ?_ | refine rn_plain ?_ | refine rn_block ?_ | refine rn_inBlock ?_ | refine rn_skip ?_ | refine rn_true rfl ?_ | refine rn_false rfl ?_ | refine rn_exit rfl ?_ | refine pl_not rfl rfl ?_))
    have hz : chkV [] 0 vs = 0 := by rw [hch, List.drop_eq_nil_of_le (by omega)]; rfl
    rw [hz]
    simp only [ne_eq, not_true_eq_false, if_false]
    refine pl_val _ rfl rfl (val_load [.slice av vs.length capv, .slice ab body.length capb] hT rfl rfl rfl (hB2.range (by rfl))) ?_
    refine pl_val _ rfl rfl (val_build _ rfl rfl (built_looking _ _ _ _ _ _) w2) ?_
    refine pl_op rfl rfl (opTo_boxN [.slice av vs.length capv, .slice ab body.length capb, .int .i64 0, .int .i64 0] rfl rfl rfl ?_)
    intro w3 j hj hs3 hk3 hJ3
    have hJ3' : Blk w3 j (lkC (.slice av vs.length capv) (.slice ab body.length capb) 0 0) tLk := hJ3
    have hB3 := hk3.blk hB2 (by simp)
    have hk3w := hk2.tr hk3
    (repeat (first | refine pl_pure hT rfl rfl rfl ?_ | refine pl_nil ?_ | refine rn_seq ?_ | refine rn_plain ?_ | refine rn_block ?_ | refine rn_inBlock ?_ | refine rn_skip ?_ | refine rn_true rfl ?_ | refine rn_false rfl ?_ | refine rn_exit rfl ?_ | refine pl_not rfl rfl ?_))
    refine pl_val _ rfl rfl (val_load1 hT rfl rfl rfl (hB3.cell rfl)) ?_
    refine pl_op rfl rfl (opTo_call rfl rfl rfl rfl (by decide +kernel) ((lookList_ret _ body (Nat.lt_succ_self _) hsz 0 0 0 (hb.keep hk3w hF.stays) (hF.keep hk3w) (fun h => by have := hF j h; have := hk2.size; omega) hJ3' (.inl (by omega)) (by omega) (fun _ => by omega)).mono ?_))
    rintro v4 w4 ⟨rfl, ⟨n4, c4, hJ4, hT4⟩, hk4⟩
    have hJ4' := hJ4
    unfold lkC at hJ4'
    (repeat (first | refine pl_pure hT rfl rfl rfl ?_ | refine pl_nil ?_ | refine rn_seq ?_ | refine rn_plain ?_ | refine rn_block ?_ | refine rn_inBlock ?_ | refine rn_skip ?_ | refine rn_true rfl ?_ | refine rn_false rfl ?_ | refine rn_exit rfl ?_ | refine pl_not rfl rfl ?_))
    refine pl_val _ rfl rfl (val_load1 hT rfl rfl rfl (hJ4'.cell rfl)) ?_
    (repeat (first | refine pl_pure hT rfl rfl rfl ?_ | refine pl_nil ?_ | refine rn_seq ?_ | refine rn_plain ?_ | refine rn_block ?_ | refine rn_inBlock ?_ | refine rn_skip ?_ | refine rn_true rfl ?_ | refine rn_false rfl ?_ | refine rn_exit rfl ?_ | refine pl_not rfl rfl ?_))
    refine rn_ret Tryz.func14 (.inl ⟨_, rfl, rfl⟩) ⟨?_, hk3w.trB hk4 (by have := hk2.size; omega)⟩
    have ht := hT4.2.1 rfl
    cases hx : chkSs vs.length body 0 0 with
    | ok q => rw [(ht.1 q hx).2]; rfl
    | error e => rw [ht.2 e hx]; rfl

end E
end Go.Proofs.YthbkcadiejfgaacGreatDoor
