/- Several texts in one: RfD, RfS, PlB. -/
import Derived.Test.YthbkcadiejfgaacDoorJ09
import Derived.Test.YthbkcadiejfgaacDoorJ06
import Derived.Test.YthbkcadiejfgaacDoorJ07
/- Contracts of the document's sameExpr, sameList. -/
namespace Go.Proofs.YthbkcadiejfgaacDoor
set_option maxRecDepth 20000
set_option maxHeartbeats 4000000
namespace E
open Go.Proofs

theorem sameExpr_ret : ∀ (s : Nat) (t : ET), szE t ≤ s → szE t ≤ 100000 → ∀ {F F' : Nat → Prop} {w : World} {cs cs' : List Value} {u : ET}, ExprV F w cs t → ExprV F' w cs' u → In F w → In F' w →
    Ret Tryd.prog 35 [.agg cs.toArray, .agg cs'.toArray] w fun r w' => r = .bool (eqE t u) ∧ Keep [] w w' := by
  intro s
  induction s with
  | zero => intro t ht; have := szE_pos t; omega
  | succ s ih =>
    intro t ht ht3 F F' w cs cs' u h h' hF hF'
    obtain ⟨op, v, n, l⟩ := t
    obtain ⟨op', v', n', l'⟩ := u
    obtain ⟨lv, rfl, hl⟩ := h.inv
    obtain ⟨lv', rfl, hl'⟩ := h'.inv
    obtain ⟨a, ca, rfl⟩ := hl.form
    obtain ⟨b, cb, rfl⟩ := hl'.form
    simp only [szE] at ht ht3
    have hlen := szEs_len l
    refine ret_of 53 Tryd.func35 rfl rfl (by simp) ?_
    (repeat (first | refine pl_pure hT rfl rfl rfl ?_ | refine pl_nil ?_ | refine rn_seq ?_ | refine rn_plain ?_ | refine rn_block ?_ | refine rn_inBlock ?_ | refine rn_skip ?_ | refine rn_true rfl ?_ | refine rn_false rfl ?_ | refine rn_exit rfl ?_ | refine pl_not rfl rfl ?_))
    refine pl_op rfl rfl (opTo_boxN [.int .i64 op, .int .i64 v, .int .i64 n, .slice a l.length ca] rfl rfl rfl ?_)
    intro w1 x1 hx1 hs1 hk1 hX1'
    refine pl_op rfl rfl (opTo_boxN [.int .i64 op', .int .i64 v', .int .i64 n', .slice b l'.length cb] rfl rfl rfl ?_)
    intro w2 x2 hx2 hs2 hk2 hX2
    have hX1 := hk2.blk hX1' (by simp)
    have hk := hk1.tr hk2
    clear hX1' hk1 hk2
    by_cases h1 : op = op'
    · by_cases h2 : v = v'
      · by_cases h3 : n = n'
        · by_cases h4 : l.length = l'.length
          · (repeat (first | refine pl_pure hT rfl rfl rfl ?_ | refine pl_nil ?_ | refine rn_seq ?_ | refine rn_plain ?_ | refine rn_block ?_ | refine rn_inBlock ?_ | refine rn_skip ?_ | refine rn_true rfl ?_ | refine rn_false rfl ?_ | refine rn_exit rfl ?_ | refine pl_not rfl rfl ?_ | refine pl_val _ rfl rfl (val_load1 hT rfl rfl rfl (Blk.cell (by assumption) (by rfl))) ?_ | refine pl_yes rfl rfl rfl rfl rfl (by first | (simp only [cmpP]; omega) | (simp [cmpP]; done) | (simp [cmpP]; omega)) ?_ | refine pl_no rfl rfl rfl rfl rfl rfl (by first | (simp only [cmpP]; omega) | (simp [cmpP]; done) | (simp [cmpP]; omega)) ?_))
            have heq : eqE (.mk op v n l) (.mk op' v' n' l') = eqEs l l' := by simp [eqE, h1, h2, h3]
            rw [heq]
            refine rn_ind (fun m σ w' => ∃ i : Nat, i ≤ l.length ∧ m = l.length - i ∧ σ = [(2, .pointer (some ⟨x1, 0, none⟩)), (3, .pointer (some ⟨x2, 0, none⟩)), (5, .int .i64 (i : Nat))] ∧ eqEs (l.take i) (l'.take i) = true ∧ Keep [] w2 w') l.length _ ?_ ⟨0, by omega, by omega, rfl, by simp [eqEs], Keep.refl _ _⟩ ?_
            · exact ⟨rfl, rfl, rfl, trivial⟩
            rintro m σ w3 ih2 ⟨i, hi, rfl, rfl, htk, hk3⟩
            (repeat (first | refine pl_pure hT rfl rfl rfl ?_ | refine pl_nil ?_ | refine rn_seq ?_ | refine rn_plain ?_ | refine rn_block ?_ | refine rn_inBlock ?_ | refine rn_skip ?_ | refine rn_true rfl ?_ | refine rn_false rfl ?_ | refine rn_exit rfl ?_ | refine pl_not rfl rfl ?_))
            refine pl_val _ rfl rfl (val_load1 hT rfl rfl rfl ((hk3.blk hX1 (by simp)).cell rfl)) ?_
            (repeat (first | refine pl_pure hT rfl rfl rfl ?_ | refine pl_nil ?_ | refine rn_seq ?_ | refine rn_plain ?_ | refine rn_block ?_ | refine rn_inBlock ?_ | refine rn_skip ?_ | refine rn_true rfl ?_ | refine rn_false rfl ?_ | refine rn_exit rfl ?_ | refine pl_not rfl rfl ?_))
            by_cases hlt : i < l.length
            · refine pl_yes rfl rfl rfl rfl rfl (by first | (simp only [cmpP]; omega) | (simp [cmpP]; done) | (simp [cmpP]; omega)) ?_
              (repeat (first | refine pl_pure hT rfl rfl rfl ?_ | refine pl_nil ?_ | refine rn_seq ?_ | refine rn_plain ?_ | refine rn_block ?_ | refine rn_inBlock ?_ | refine rn_skip ?_ | refine rn_true rfl ?_ | refine rn_false rfl ?_ | refine rn_exit rfl ?_ | refine pl_not rfl rfl ?_))
              have hlt2 : i < l'.length := by omega
              have hx : l[i]? = some l[i] := List.getElem?_eq_getElem hlt
              have hy : l'[i]? = some l'[i] := List.getElem?_eq_getElem hlt2
              have hsz := szEs_at hx
              have hsp := eqEs_split h4 hx hy
              have htk2 := eqEs_take h4 hx hy
              rw [htk, Bool.true_and] at hsp htk2
              have hkw3 := hk.tr hk3
              obtain ⟨b1, q1, _, ci, hv1, hF1, hr1, hc1⟩ := hl.at hx
              cases hv1
              obtain ⟨b2, q2, _, cj, hv2, hF2, hr2, hc2⟩ := hl'.at hy
              cases hv2
              refine rn_draw (fun w' => Keep [] w3 w') [] hMix ?_
              have hS : Keep [] w3 w3.drew := (Keep.refl _ _).drew
              generalize w3.drew = w4 at *
              refine dr_pure 0 hT rfl (by decide +kernel) rfl rfl rfl ?_
              refine dr_val 1 _ rfl (by decide +kernel) rfl rfl (fun w9 hS9 => val_load1 hT rfl rfl rfl (((hk3.tr hS9).blk hX1 (by simp)).cell rfl)) hS ?_
              refine dr_pure 2 hT rfl (by decide +kernel) rfl rfl rfl ?_
              refine dr_any 3 _ rfl (by decide +kernel) rfl rfl (fun w => val_index i hT rfl rfl rfl rfl rfl hlt w) ?_
              refine dr_val 4 (.agg ci.toArray) rfl (by decide +kernel) rfl rfl (fun w9 hS9 => val_load ci hT rfl rfl (by rw [hc1.length]; rfl) (range_keep hr1 (hkw3.tr hS9) (hF _ hF1) (by simp))) hS ?_
              refine dr_pure 5 hT rfl (by decide +kernel) rfl rfl rfl ?_
              refine dr_val 6 _ rfl (by decide +kernel) rfl rfl (fun w9 hS9 => val_load1 hT rfl rfl rfl (((hk3.tr hS9).blk hX2 (by simp)).cell rfl)) hS ?_
              refine dr_pure 7 hT rfl (by decide +kernel) rfl rfl rfl ?_
              refine dr_any 8 _ rfl (by decide +kernel) rfl rfl (fun w => val_index i hT rfl rfl rfl rfl rfl hlt2 w) ?_
              refine dr_val 9 (.agg cj.toArray) rfl (by decide +kernel) rfl rfl (fun w9 hS9 => val_load cj hT rfl rfl (by rw [hc2.length]; rfl) (range_keep hr2 (hkw3.tr hS9) (hF' _ hF2) (by simp))) hS ?_
              refine dr_op 10 rfl (by decide +kernel) rfl rfl (opTo_call rfl rfl rfl rfl (by decide +kernel) ((ih l[i] (by omega) (by omega) (hc1.keep (hkw3.tr hS) hF.stays) (hc2.keep (hkw3.tr hS) hF'.stays) (hF.keep (hkw3.tr hS)) (hF'.keep (hkw3.tr hS))).mono ?_))
              rintro v5 w5 ⟨rfl, hk5⟩
              refine ⟨fun _ => hS.tr hk5, ?_⟩
              refine dr_pure 11 hT rfl (by decide +kernel) rfl rfl rfl ?_
              refine dr_done (by decide +kernel) ?_
              have hk35 := (hk3.tr hS).tr hk5
              cases hq : eqE l[i] l'[i] with
              | false =>
                (repeat (first | refine pl_pure hT rfl rfl rfl ?_ | refine pl_nil ?_ | refine rn_seq ?_ | refine rn_plain ?_ | refine rn_block ?_ | refine rn_inBlock ?_ | refine rn_skip ?_ | refine rn_true rfl ?_ | refine rn_false rfl ?_ | refine rn_exit rfl ?_ | refine pl_not rfl rfl ?_))
                exact rn_ret Tryd.func35 (.inl ⟨_, rfl, rfl⟩) ⟨by rw [hsp, hq]; rfl, hk.tr hk35⟩
              | true =>
                (repeat (first | refine pl_pure hT rfl rfl rfl ?_ | refine pl_nil ?_ | refine rn_seq ?_ | refine rn_plain ?_ | refine rn_block ?_ | refine rn_inBlock ?_ | refine rn_skip ?_ | refine rn_true rfl ?_ | refine rn_false rfl ?_ | refine rn_exit rfl ?_ | refine pl_not rfl rfl ?_))
                refine pl_num (((i + 1 : Nat) : Int)) rfl rfl rfl rfl rfl (by simp only [ariP]; omega) ?_
                (repeat (first | refine pl_pure hT rfl rfl rfl ?_ | refine pl_nil ?_ | refine rn_seq ?_ | refine rn_plain ?_ | refine rn_block ?_ | refine rn_inBlock ?_ | refine rn_skip ?_ | refine rn_true rfl ?_ | refine rn_false rfl ?_ | refine rn_exit rfl ?_ | refine pl_not rfl rfl ?_))
                refine rn_sub ?_ (ih2 (l.length - (i + 1)) [(2, .pointer (some ⟨x1, 0, none⟩)), (3, .pointer (some ⟨x2, 0, none⟩)), (5, .int .i64 ((i + 1 : Nat) : Int))] w5 (by omega) ⟨i + 1, by omega, rfl, rfl, by rw [htk2, hq], hk35⟩)
                exact ⟨rfl, rfl, rfl, trivial⟩
            · refine pl_no rfl rfl rfl rfl rfl rfl (by first | (simp only [cmpP]; omega) | (simp [cmpP]; done) | (simp [cmpP]; omega)) ?_
              (repeat (first | refine pl_pure hT rfl rfl rfl ?_ | refine pl_nil ?_ | refine rn_seq ?_ | refine rn_plain ?_ | refine rn_block ?_ | refine rn_inBlock ?_ | refine rn_skip ?_ | refine rn_true rfl ?_ | refine rn_false rfl ?_ | refine rn_exit rfl ?_ | refine pl_not rfl rfl ?_))
              rw [List.take_of_length_le (by omega), List.take_of_length_le (by omega)] at htk
              exact rn_ret Tryd.func35 (.inl ⟨_, rfl, rfl⟩) ⟨by rw [htk], hk.tr hk3⟩
          · (repeat (first | refine pl_pure hT rfl rfl rfl ?_ | refine pl_nil ?_ | refine rn_seq ?_ | refine rn_plain ?_ | refine rn_block ?_ | refine rn_inBlock ?_ | refine rn_skip ?_ | refine rn_true rfl ?_ | refine rn_false rfl ?_ | refine rn_exit rfl ?_ | refine pl_not rfl rfl ?_ | refine pl_val _ rfl rfl (val_load1 hT rfl rfl rfl (Blk.cell (by assumption) (by rfl))) ?_ | refine pl_yes rfl rfl rfl rfl rfl (by first | (simp only [cmpP]; omega) | (simp [cmpP]; done) | (simp [cmpP]; omega)) ?_ | refine pl_no rfl rfl rfl rfl rfl rfl (by first | (simp only [cmpP]; omega) | (simp [cmpP]; done) | (simp [cmpP]; omega)) ?_))
            exact rn_ret Tryd.func35 (.inl ⟨_, rfl, rfl⟩) ⟨by simp [eqE, eqEs_ne h4], hk⟩
        · (repeat (first | refine pl_pure hT rfl rfl rfl ?_ | refine pl_nil ?_ | refine rn_seq ?_ | refine rn_plain ?_ | refine rn_block ?_ | refine rn_inBlock ?_ | refine rn_skip ?_ | refine rn_true rfl ?_ | refine rn_false rfl ?_ | refine rn_exit rfl ?_ | refine pl_not rfl rfl ?_ | refine pl_val _ rfl rfl (val_load1 hT rfl rfl rfl (Blk.cell (by assumption) (by rfl))) ?_ | refine pl_yes rfl rfl rfl rfl rfl (by first | (simp only [cmpP]; omega) | (simp [cmpP]; done) | (simp [cmpP]; omega)) ?_ | refine pl_no rfl rfl rfl rfl rfl rfl (by first | (simp only [cmpP]; omega) | (simp [cmpP]; done) | (simp [cmpP]; omega)) ?_))
          exact rn_ret Tryd.func35 (.inl ⟨_, rfl, rfl⟩) ⟨by simp [eqE, h3], hk⟩
      · (repeat (first | refine pl_pure hT rfl rfl rfl ?_ | refine pl_nil ?_ | refine rn_seq ?_ | refine rn_plain ?_ | refine rn_block ?_ | refine rn_inBlock ?_ | refine rn_skip ?_ | refine rn_true rfl ?_ | refine rn_false rfl ?_ | refine rn_exit rfl ?_ | refine pl_not rfl rfl ?_ | refine pl_val _ rfl rfl (val_load1 hT rfl rfl rfl (Blk.cell (by assumption) (by rfl))) ?_ | refine pl_yes rfl rfl rfl rfl rfl (by first | (simp only [cmpP]; omega) | (simp [cmpP]; done) | (simp [cmpP]; omega)) ?_ | refine pl_no rfl rfl rfl rfl rfl rfl (by first | (simp only [cmpP]; omega) | (simp [cmpP]; done) | (simp [cmpP]; omega)) ?_))
        exact rn_ret Tryd.func35 (.inl ⟨_, rfl, rfl⟩) ⟨by simp [eqE, h2], hk⟩
    · (repeat (first | refine pl_pure hT rfl rfl rfl ?_ | refine pl_nil ?_ | refine rn_seq ?_ | refine rn_plain ?_ | refine rn_block ?_ | refine rn_inBlock ?_ | refine rn_skip ?_ | refine rn_true rfl ?_ | refine rn_false rfl ?_ | refine rn_exit rfl ?_ | refine pl_not rfl rfl ?_ | refine pl_val _ rfl rfl (val_load1 hT rfl rfl rfl (Blk.cell (by assumption) (by rfl))) ?_ | refine pl_yes rfl rfl rfl rfl rfl (by first | (simp only [cmpP]; omega) | (simp [cmpP]; done) | (simp [cmpP]; omega)) ?_ | refine pl_no rfl rfl rfl rfl rfl rfl (by first | (simp only [cmpP]; omega) | (simp [cmpP]; done) | (simp [cmpP]; omega)) ?_))
      exact rn_ret Tryd.func35 (.inl ⟨_, rfl, rfl⟩) ⟨by simp [eqE, h1], hk⟩

theorem sameList_ret : ∀ (s : Nat) (l : List ST), szSs l < s → szSs l ≤ 100000 → ∀ {F F' : Nat → Prop} {w : World} {x y : Value} {l' : List ST}, StmtsV F w x l → StmtsV F' w y l' → In F w → In F' w →
    Ret Tryd.prog 22 [x, y] w fun r w' => r = .bool (eqSs l l') ∧ Keep [] w w' := by
  intro s
  induction s with
  | zero => intro l hl; omega
  | succ s ih =>
    intro l hl hl3 F F' w x y l' h h' hF hF'
    obtain ⟨a, ca, rfl⟩ := h.form
    obtain ⟨b, cb, rfl⟩ := h'.form
    have hlen := szSs_len l
    refine ret_of 97 Tryd.func22 rfl rfl (by simp) ?_
    (repeat (first | refine pl_pure hT rfl rfl rfl ?_ | refine pl_nil ?_ | refine rn_seq ?_ | refine rn_plain ?_ | refine rn_block ?_ | refine rn_inBlock ?_ | refine rn_skip ?_ | refine rn_true rfl ?_ | refine rn_false rfl ?_ | refine rn_exit rfl ?_ | refine pl_not rfl rfl ?_))
    by_cases hn : l.length = l'.length
    · refine pl_no rfl rfl rfl rfl rfl rfl (by first | (simp only [cmpP]; omega) | (simp [cmpP]; done) | (simp [cmpP]; omega)) ?_
      (repeat (first | refine pl_pure hT rfl rfl rfl ?_ | refine pl_nil ?_ | refine rn_seq ?_ | refine rn_plain ?_ | refine rn_block ?_ | refine rn_inBlock ?_ | refine rn_skip ?_ | refine rn_true rfl ?_ | refine rn_false rfl ?_ | refine rn_exit rfl ?_ | refine pl_not rfl rfl ?_))
      refine rn_ind (fun m σ w' => ∃ i : Nat, i ≤ l.length ∧ m = l.length - i ∧ σ = [(0, .slice a l.length ca), (1, .slice b l'.length cb), (5, .int .i64 (i : Nat))] ∧ eqSs (l.take i) (l'.take i) = true ∧ Keep [] w w') l.length _ ?_ ⟨0, by omega, by omega, rfl, by simp [eqSs], Keep.refl _ _⟩ ?_
      · exact ⟨rfl, rfl, rfl, trivial⟩
      rintro m σ w2 ih2 ⟨i, hi, rfl, rfl, htk, hk2⟩
      (repeat (first | refine pl_pure hT rfl rfl rfl ?_ | refine pl_nil ?_ | refine rn_seq ?_ | refine rn_plain ?_ | refine rn_block ?_ | refine rn_inBlock ?_ | refine rn_skip ?_ | refine rn_true rfl ?_ | refine rn_false rfl ?_ | refine rn_exit rfl ?_ | refine pl_not rfl rfl ?_))
      by_cases hlt : i < l.length
      · refine pl_yes rfl rfl rfl rfl rfl (by first | (simp only [cmpP]; omega) | (simp [cmpP]; done) | (simp [cmpP]; omega)) ?_
        (repeat (first | refine pl_pure hT rfl rfl rfl ?_ | refine pl_nil ?_ | refine rn_seq ?_ | refine rn_plain ?_ | refine rn_block ?_ | refine rn_inBlock ?_ | refine rn_skip ?_ | refine rn_true rfl ?_ | refine rn_false rfl ?_ | refine rn_exit rfl ?_ | refine pl_not rfl rfl ?_))
        have hlt2 : i < l'.length := by omega
        have hx : l[i]? = some l[i] := List.getElem?_eq_getElem hlt
        have hy : l'[i]? = some l'[i] := List.getElem?_eq_getElem hlt2
        have hsz := szSs_at hx
        obtain ⟨op, v, e, f, lb, lo, hs⟩ : ∃ op v e f lb lo, l[i] = ST.mk op v e f lb lo := by cases l[i]; exact ⟨_, _, _, _, _, _, rfl⟩
        obtain ⟨op', v', e', f', lb', lo', hs'⟩ : ∃ op v e f lb lo, l'[i] = ST.mk op v e f lb lo := by cases l'[i]; exact ⟨_, _, _, _, _, _, rfl⟩
        rw [hs] at hx hsz
        rw [hs'] at hy
        simp only [szS] at hsz
        have hsp := eqSs_split hn hx hy
        have htk2 := eqSs_take hn hx hy
        rw [htk, Bool.true_and] at hsp htk2
        obtain ⟨b1, q1, _, ce, cf, bv, ov, hv1, hA⟩ := (h.keep hk2 hF.stays).stmtAt hx
        cases hv1
        obtain ⟨b2, q2, _, ce', cf', bv', ov', hv2, hB⟩ := (h'.keep hk2 hF'.stays).stmtAt hy
        cases hv2
        have hFA2 := hF.keep hk2
        have hFB2 := hF'.keep hk2
        refine rn_draw (fun w' => Keep [] w2 w') [] hMix ?_
        have hS : Keep [] w2 w2.drew := (Keep.refl _ _).drew
        generalize w2.drew = w3 at *
        refine dr_with 0 1208925819614629174706175 (fun σ' w' => ∃ d : Bool, d = ((((((!(op == op')) || !(v == v')) || !eqE e e') || !eqE f f') || !eqSs lb lb') || !eqSs lo lo') ∧ Keep [] w2 w' ∧ Sub ([(0, .slice (some ⟨b1, q1, none⟩) l.length ca), (1, .slice (some ⟨b2, q2, none⟩) l'.length cb), (5, .int .i64 (i : Nat)), (96, .bool d)]) σ') ?_ ?_
        · rintro σ' w5 ⟨d, hd, hS, hsub⟩
          refine dr_sub hsub ?_
          refine dr_done (by decide +kernel) ?_
          have hdq : d = !eqS (.mk op v e f lb lo) (.mk op' v' e' f' lb' lo') := by
            rw [hd]
            simp only [eqS]
            cases (op == op') <;> cases (v == v') <;> cases eqE e e' <;> cases eqE f f' <;> cases eqSs lb lb' <;> cases eqSs lo lo' <;> rfl
          cases d with
          | true =>
            (repeat (first | refine pl_pure hT rfl rfl rfl ?_ | refine pl_nil ?_ | refine rn_seq ?_ | refine rn_plain ?_ | refine rn_block ?_ | refine rn_inBlock ?_ | refine rn_skip ?_ | refine rn_true rfl ?_ | refine rn_false rfl ?_ | refine rn_exit rfl ?_ | refine pl_not rfl rfl ?_))
            refine rn_ret Tryd.func22 (.inl ⟨_, rfl, rfl⟩) ⟨?_, hk2.tr hS⟩
            have hq : eqS (.mk op v e f lb lo) (.mk op' v' e' f' lb' lo') = false := by
              revert hdq
              cases eqS (.mk op v e f lb lo) (.mk op' v' e' f' lb' lo') <;> simp
            rw [hsp, hq]
            rfl
          | false =>
            (repeat (first | refine pl_pure hT rfl rfl rfl ?_ | refine pl_nil ?_ | refine rn_seq ?_ | refine rn_plain ?_ | refine rn_block ?_ | refine rn_inBlock ?_ | refine rn_skip ?_ | refine rn_true rfl ?_ | refine rn_false rfl ?_ | refine rn_exit rfl ?_ | refine pl_not rfl rfl ?_))
            refine pl_num (((i + 1 : Nat) : Int)) rfl rfl rfl rfl rfl (by simp only [ariP]; omega) ?_
            (repeat (first | refine pl_pure hT rfl rfl rfl ?_ | refine pl_nil ?_ | refine rn_seq ?_ | refine rn_plain ?_ | refine rn_block ?_ | refine rn_inBlock ?_ | refine rn_skip ?_ | refine rn_true rfl ?_ | refine rn_false rfl ?_ | refine rn_exit rfl ?_ | refine pl_not rfl rfl ?_))
            have hq : eqS (.mk op v e f lb lo) (.mk op' v' e' f' lb' lo') = true := by
              revert hdq
              cases eqS (.mk op v e f lb lo) (.mk op' v' e' f' lb' lo') <;> simp
            refine rn_sub ?_ (ih2 (l.length - (i + 1)) [(0, .slice (some ⟨b1, q1, none⟩) l.length ca), (1, .slice (some ⟨b2, q2, none⟩) l'.length cb), (5, .int .i64 ((i + 1 : Nat) : Int))] w5 (by omega) ⟨i + 1, by omega, rfl, rfl, by rw [htk2, hq], hk2.tr hS⟩)
            exact ⟨rfl, rfl, rfl, trivial⟩
        intro f5
        refine dr_with 13 147573952589676412927 (fun σ' w' => ∃ d : Bool, d = (((((!(op == op')) || !(v == v')) || !eqE e e') || !eqE f f') || !eqSs lb lb') ∧ Keep [] w2 w' ∧ Sub ([(0, .slice (some ⟨b1, q1, none⟩) l.length ca), (1, .slice (some ⟨b2, q2, none⟩) l'.length cb), (5, .int .i64 (i : Nat)), (83, .bool d)]) σ') ?_ ?_
        · rintro σ' w5 ⟨d, hd, hS, hsub⟩
          refine dr_sub hsub ?_
          cases d with
          | true =>
            refine dr_not 67 rfl (by decide +kernel) rfl rfl ?_
            refine dr_not 68 rfl (by decide +kernel) rfl rfl ?_
            refine dr_not 69 rfl (by decide +kernel) rfl rfl ?_
            refine dr_not 70 rfl (by decide +kernel) rfl rfl ?_
            refine dr_not 71 rfl (by decide +kernel) rfl rfl ?_
            refine dr_not 72 rfl (by decide +kernel) rfl rfl ?_
            refine dr_not 73 rfl (by decide +kernel) rfl rfl ?_
            refine dr_not 74 rfl (by decide +kernel) rfl rfl ?_
            refine dr_not 75 rfl (by decide +kernel) rfl rfl ?_
            refine dr_not 76 rfl (by decide +kernel) rfl rfl ?_
            refine dr_not 77 rfl (by decide +kernel) rfl rfl ?_
            refine dr_not 78 rfl (by decide +kernel) rfl rfl ?_
            refine dr_pure 79 hT rfl (by decide +kernel) rfl rfl rfl ?_
            exact f5 _ _ ⟨_, by rw [← hd]; rfl, hS, rfl, rfl, rfl, rfl, trivial⟩
          | false =>
            refine dr_pure 67 hT rfl (by decide +kernel) rfl rfl rfl ?_
            refine dr_pure 68 hT rfl (by decide +kernel) rfl rfl rfl ?_
            refine dr_any 69 _ rfl (by decide +kernel) rfl rfl (fun w => val_index i hT rfl rfl rfl rfl rfl hlt w) ?_
            refine dr_pure 70 hT rfl (by decide +kernel) rfl rfl rfl ?_
            refine dr_val 71 _ rfl (by decide +kernel) rfl rfl (fun w9 hS9 => val_load1 hT rfl rfl rfl (hA.keep hS9 hFA2.stays).co) hS ?_
            refine dr_pure 72 hT rfl (by decide +kernel) rfl rfl rfl ?_
            refine dr_pure 73 hT rfl (by decide +kernel) rfl rfl rfl ?_
            refine dr_any 74 _ rfl (by decide +kernel) rfl rfl (fun w => val_index i hT rfl rfl rfl rfl rfl hlt2 w) ?_
            refine dr_pure 75 hT rfl (by decide +kernel) rfl rfl rfl ?_
            refine dr_val 76 _ rfl (by decide +kernel) rfl rfl (fun w9 hS9 => val_load1 hT rfl rfl rfl (hB.keep hS9 hFB2.stays).co) hS ?_
            refine dr_op 77 rfl (by decide +kernel) rfl rfl (opTo_call rfl rfl rfl rfl (by decide +kernel) ((ih lo (by omega) (by omega) (hA.keep hS hFA2.stays).ho (hB.keep hS hFB2.stays).ho (hFA2.keep hS) (hFB2.keep hS)).mono ?_))
            rintro v6 w6 ⟨rfl, hk6⟩
            replace hS := hS.tr hk6
            refine ⟨fun _ => hS, ?_⟩
            refine dr_pure 78 hT rfl (by decide +kernel) rfl rfl rfl ?_
            refine dr_pure 79 hT rfl (by decide +kernel) rfl rfl rfl ?_
            exact f5 _ _ ⟨_, by rw [← hd]; rfl, hS, rfl, rfl, rfl, rfl, trivial⟩
        intro f4
        clear f5
        refine dr_with 27 9007199254740991 (fun σ' w' => ∃ d : Bool, d = ((((!(op == op')) || !(v == v')) || !eqE e e') || !eqE f f') ∧ Keep [] w2 w' ∧ Sub ([(0, .slice (some ⟨b1, q1, none⟩) l.length ca), (1, .slice (some ⟨b2, q2, none⟩) l'.length cb), (5, .int .i64 (i : Nat)), (69, .bool d)]) σ') ?_ ?_
        · rintro σ' w5 ⟨d, hd, hS, hsub⟩
          refine dr_sub hsub ?_
          cases d with
          | true =>
            refine dr_not 53 rfl (by decide +kernel) rfl rfl ?_
            refine dr_not 54 rfl (by decide +kernel) rfl rfl ?_
            refine dr_not 55 rfl (by decide +kernel) rfl rfl ?_
            refine dr_not 56 rfl (by decide +kernel) rfl rfl ?_
            refine dr_not 57 rfl (by decide +kernel) rfl rfl ?_
            refine dr_not 58 rfl (by decide +kernel) rfl rfl ?_
            refine dr_not 59 rfl (by decide +kernel) rfl rfl ?_
            refine dr_not 60 rfl (by decide +kernel) rfl rfl ?_
            refine dr_not 61 rfl (by decide +kernel) rfl rfl ?_
            refine dr_not 62 rfl (by decide +kernel) rfl rfl ?_
            refine dr_not 63 rfl (by decide +kernel) rfl rfl ?_
            refine dr_not 64 rfl (by decide +kernel) rfl rfl ?_
            refine dr_pure 65 hT rfl (by decide +kernel) rfl rfl rfl ?_
            refine dr_pure 66 hT rfl (by decide +kernel) rfl rfl rfl ?_
            exact f4 _ _ ⟨_, by rw [← hd]; rfl, hS, rfl, rfl, rfl, rfl, trivial⟩
          | false =>
            refine dr_pure 53 hT rfl (by decide +kernel) rfl rfl rfl ?_
            refine dr_pure 54 hT rfl (by decide +kernel) rfl rfl rfl ?_
            refine dr_any 55 _ rfl (by decide +kernel) rfl rfl (fun w => val_index i hT rfl rfl rfl rfl rfl hlt w) ?_
            refine dr_pure 56 hT rfl (by decide +kernel) rfl rfl rfl ?_
            refine dr_val 57 _ rfl (by decide +kernel) rfl rfl (fun w9 hS9 => val_load1 hT rfl rfl rfl (hA.keep hS9 hFA2.stays).cb) hS ?_
            refine dr_pure 58 hT rfl (by decide +kernel) rfl rfl rfl ?_
            refine dr_pure 59 hT rfl (by decide +kernel) rfl rfl rfl ?_
            refine dr_any 60 _ rfl (by decide +kernel) rfl rfl (fun w => val_index i hT rfl rfl rfl rfl rfl hlt2 w) ?_
            refine dr_pure 61 hT rfl (by decide +kernel) rfl rfl rfl ?_
            refine dr_val 62 _ rfl (by decide +kernel) rfl rfl (fun w9 hS9 => val_load1 hT rfl rfl rfl (hB.keep hS9 hFB2.stays).cb) hS ?_
            refine dr_op 63 rfl (by decide +kernel) rfl rfl (opTo_call rfl rfl rfl rfl (by decide +kernel) ((ih lb (by omega) (by omega) (hA.keep hS hFA2.stays).hb (hB.keep hS hFB2.stays).hb (hFA2.keep hS) (hFB2.keep hS)).mono ?_))
            rintro v6 w6 ⟨rfl, hk6⟩
            replace hS := hS.tr hk6
            refine ⟨fun _ => hS, ?_⟩
            refine dr_pure 64 hT rfl (by decide +kernel) rfl rfl rfl ?_
            refine dr_pure 65 hT rfl (by decide +kernel) rfl rfl rfl ?_
            refine dr_pure 66 hT rfl (by decide +kernel) rfl rfl rfl ?_
            exact f4 _ _ ⟨_, by rw [← hd]; rfl, hS, rfl, rfl, rfl, rfl, trivial⟩
        intro f3
        clear f4
        refine dr_with 41 549755813887 (fun σ' w' => ∃ d : Bool, d = (((!(op == op')) || !(v == v')) || !eqE e e') ∧ Keep [] w2 w' ∧ Sub ([(0, .slice (some ⟨b1, q1, none⟩) l.length ca), (1, .slice (some ⟨b2, q2, none⟩) l'.length cb), (5, .int .i64 (i : Nat)), (55, .bool d)]) σ') ?_ ?_
        · rintro σ' w5 ⟨d, hd, hS, hsub⟩
          refine dr_sub hsub ?_
          cases d with
          | true =>
            refine dr_not 39 rfl (by decide +kernel) rfl rfl ?_
            refine dr_not 40 rfl (by decide +kernel) rfl rfl ?_
            refine dr_not 41 rfl (by decide +kernel) rfl rfl ?_
            refine dr_not 42 rfl (by decide +kernel) rfl rfl ?_
            refine dr_not 43 rfl (by decide +kernel) rfl rfl ?_
            refine dr_not 44 rfl (by decide +kernel) rfl rfl ?_
            refine dr_not 45 rfl (by decide +kernel) rfl rfl ?_
            refine dr_not 46 rfl (by decide +kernel) rfl rfl ?_
            refine dr_not 47 rfl (by decide +kernel) rfl rfl ?_
            refine dr_not 48 rfl (by decide +kernel) rfl rfl ?_
            refine dr_not 49 rfl (by decide +kernel) rfl rfl ?_
            refine dr_not 50 rfl (by decide +kernel) rfl rfl ?_
            refine dr_pure 51 hT rfl (by decide +kernel) rfl rfl rfl ?_
            refine dr_pure 52 hT rfl (by decide +kernel) rfl rfl rfl ?_
            exact f3 _ _ ⟨_, by rw [← hd]; rfl, hS, rfl, rfl, rfl, rfl, trivial⟩
          | false =>
            refine dr_pure 39 hT rfl (by decide +kernel) rfl rfl rfl ?_
            refine dr_pure 40 hT rfl (by decide +kernel) rfl rfl rfl ?_
            refine dr_any 41 _ rfl (by decide +kernel) rfl rfl (fun w => val_index i hT rfl rfl rfl rfl rfl hlt w) ?_
            refine dr_pure 42 hT rfl (by decide +kernel) rfl rfl rfl ?_
            refine dr_val 43 (.agg cf.toArray) rfl (by decide +kernel) rfl rfl (fun w9 hS9 => val_load cf hT rfl rfl (by rw [hA.hf.length]; rfl) (hA.keep hS9 hFA2.stays).rf) hS ?_
            refine dr_pure 44 hT rfl (by decide +kernel) rfl rfl rfl ?_
            refine dr_pure 45 hT rfl (by decide +kernel) rfl rfl rfl ?_
            refine dr_any 46 _ rfl (by decide +kernel) rfl rfl (fun w => val_index i hT rfl rfl rfl rfl rfl hlt2 w) ?_
            refine dr_pure 47 hT rfl (by decide +kernel) rfl rfl rfl ?_
            refine dr_val 48 (.agg cf'.toArray) rfl (by decide +kernel) rfl rfl (fun w9 hS9 => val_load cf' hT rfl rfl (by rw [hB.hf.length]; rfl) (hB.keep hS9 hFB2.stays).rf) hS ?_
            refine dr_op 49 rfl (by decide +kernel) rfl rfl (opTo_call rfl rfl rfl rfl (by decide +kernel) ((sameExpr_ret _ f (Nat.le_refl _) (by omega) (hA.keep hS hFA2.stays).hf (hB.keep hS hFB2.stays).hf (hFA2.keep hS) (hFB2.keep hS)).mono ?_))
            rintro v6 w6 ⟨rfl, hk6⟩
            replace hS := hS.tr hk6
            refine ⟨fun _ => hS, ?_⟩
            refine dr_pure 50 hT rfl (by decide +kernel) rfl rfl rfl ?_
            refine dr_pure 51 hT rfl (by decide +kernel) rfl rfl rfl ?_
            refine dr_pure 52 hT rfl (by decide +kernel) rfl rfl rfl ?_
            exact f3 _ _ ⟨_, by rw [← hd]; rfl, hS, rfl, rfl, rfl, rfl, trivial⟩
        intro f2
        clear f3
        refine dr_with 55 33554431 (fun σ' w' => ∃ d : Bool, d = ((!(op == op')) || !(v == v')) ∧ Keep [] w2 w' ∧ Sub ([(0, .slice (some ⟨b1, q1, none⟩) l.length ca), (1, .slice (some ⟨b2, q2, none⟩) l'.length cb), (5, .int .i64 (i : Nat)), (41, .bool d)]) σ') ?_ ?_
        · rintro σ' w5 ⟨d, hd, hS, hsub⟩
          refine dr_sub hsub ?_
          cases d with
          | true =>
            refine dr_not 25 rfl (by decide +kernel) rfl rfl ?_
            refine dr_not 26 rfl (by decide +kernel) rfl rfl ?_
            refine dr_not 27 rfl (by decide +kernel) rfl rfl ?_
            refine dr_not 28 rfl (by decide +kernel) rfl rfl ?_
            refine dr_not 29 rfl (by decide +kernel) rfl rfl ?_
            refine dr_not 30 rfl (by decide +kernel) rfl rfl ?_
            refine dr_not 31 rfl (by decide +kernel) rfl rfl ?_
            refine dr_not 32 rfl (by decide +kernel) rfl rfl ?_
            refine dr_not 33 rfl (by decide +kernel) rfl rfl ?_
            refine dr_not 34 rfl (by decide +kernel) rfl rfl ?_
            refine dr_not 35 rfl (by decide +kernel) rfl rfl ?_
            refine dr_not 36 rfl (by decide +kernel) rfl rfl ?_
            refine dr_pure 37 hT rfl (by decide +kernel) rfl rfl rfl ?_
            refine dr_pure 38 hT rfl (by decide +kernel) rfl rfl rfl ?_
            exact f2 _ _ ⟨_, by rw [← hd]; rfl, hS, rfl, rfl, rfl, rfl, trivial⟩
          | false =>
            refine dr_pure 25 hT rfl (by decide +kernel) rfl rfl rfl ?_
            refine dr_pure 26 hT rfl (by decide +kernel) rfl rfl rfl ?_
            refine dr_any 27 _ rfl (by decide +kernel) rfl rfl (fun w => val_index i hT rfl rfl rfl rfl rfl hlt w) ?_
            refine dr_pure 28 hT rfl (by decide +kernel) rfl rfl rfl ?_
            refine dr_val 29 (.agg ce.toArray) rfl (by decide +kernel) rfl rfl (fun w9 hS9 => val_load ce hT rfl rfl (by rw [hA.he.length]; rfl) (hA.keep hS9 hFA2.stays).re) hS ?_
            refine dr_pure 30 hT rfl (by decide +kernel) rfl rfl rfl ?_
            refine dr_pure 31 hT rfl (by decide +kernel) rfl rfl rfl ?_
            refine dr_any 32 _ rfl (by decide +kernel) rfl rfl (fun w => val_index i hT rfl rfl rfl rfl rfl hlt2 w) ?_
            refine dr_pure 33 hT rfl (by decide +kernel) rfl rfl rfl ?_
            refine dr_val 34 (.agg ce'.toArray) rfl (by decide +kernel) rfl rfl (fun w9 hS9 => val_load ce' hT rfl rfl (by rw [hB.he.length]; rfl) (hB.keep hS9 hFB2.stays).re) hS ?_
            refine dr_op 35 rfl (by decide +kernel) rfl rfl (opTo_call rfl rfl rfl rfl (by decide +kernel) ((sameExpr_ret _ e (Nat.le_refl _) (by omega) (hA.keep hS hFA2.stays).he (hB.keep hS hFB2.stays).he (hFA2.keep hS) (hFB2.keep hS)).mono ?_))
            rintro v6 w6 ⟨rfl, hk6⟩
            replace hS := hS.tr hk6
            refine ⟨fun _ => hS, ?_⟩
            refine dr_pure 36 hT rfl (by decide +kernel) rfl rfl rfl ?_
            refine dr_pure 37 hT rfl (by decide +kernel) rfl rfl rfl ?_
            refine dr_pure 38 hT rfl (by decide +kernel) rfl rfl rfl ?_
            exact f2 _ _ ⟨_, by rw [← hd]; rfl, hS, rfl, rfl, rfl, rfl, trivial⟩
        intro f1
        clear f2
        refine dr_pure 0 hT rfl (by decide +kernel) rfl rfl rfl ?_
        refine dr_pure 1 hT rfl (by decide +kernel) rfl rfl rfl ?_
        refine dr_any 2 _ rfl (by decide +kernel) rfl rfl (fun w => val_index i hT rfl rfl rfl rfl rfl hlt w) ?_
        refine dr_pure 3 hT rfl (by decide +kernel) rfl rfl rfl ?_
        refine dr_val 4 _ rfl (by decide +kernel) rfl rfl (fun w9 hS9 => val_load1 hT rfl rfl rfl (hA.keep hS9 hFA2.stays).cop) hS ?_
        refine dr_pure 5 hT rfl (by decide +kernel) rfl rfl rfl ?_
        refine dr_pure 6 hT rfl (by decide +kernel) rfl rfl rfl ?_
        refine dr_any 7 _ rfl (by decide +kernel) rfl rfl (fun w => val_index i hT rfl rfl rfl rfl rfl hlt2 w) ?_
        refine dr_pure 8 hT rfl (by decide +kernel) rfl rfl rfl ?_
        refine dr_val 9 _ rfl (by decide +kernel) rfl rfl (fun w9 hS9 => val_load1 hT rfl rfl rfl (hB.keep hS9 hFB2.stays).cop) hS ?_
        by_cases hop : op = op'
        · refine dr_no 10 rfl (by decide +kernel) rfl rfl rfl rfl rfl rfl (by first | (simp only [cmpP]; omega) | (simp [cmpP]; done) | (simp [cmpP]; omega)) ?_
          refine dr_pure 11 hT rfl (by decide +kernel) rfl rfl rfl ?_
          refine dr_pure 12 hT rfl (by decide +kernel) rfl rfl rfl ?_
          refine dr_pure 13 hT rfl (by decide +kernel) rfl rfl rfl ?_
          refine dr_any 14 _ rfl (by decide +kernel) rfl rfl (fun w => val_index i hT rfl rfl rfl rfl rfl hlt w) ?_
          refine dr_pure 15 hT rfl (by decide +kernel) rfl rfl rfl ?_
          refine dr_val 16 _ rfl (by decide +kernel) rfl rfl (fun w9 hS9 => val_load1 hT rfl rfl rfl (hA.keep hS9 hFA2.stays).cv) hS ?_
          refine dr_pure 17 hT rfl (by decide +kernel) rfl rfl rfl ?_
          refine dr_pure 18 hT rfl (by decide +kernel) rfl rfl rfl ?_
          refine dr_any 19 _ rfl (by decide +kernel) rfl rfl (fun w => val_index i hT rfl rfl rfl rfl rfl hlt2 w) ?_
          refine dr_pure 20 hT rfl (by decide +kernel) rfl rfl rfl ?_
          refine dr_val 21 _ rfl (by decide +kernel) rfl rfl (fun w9 hS9 => val_load1 hT rfl rfl rfl (hB.keep hS9 hFB2.stays).cv) hS ?_
          refine dr_any 22 (.bool (!(v == v'))) rfl (by decide +kernel) rfl rfl (fun w => val_int .i64 _ _ _ rfl rfl rfl (by simp only [intOp]; rfl) w) ?_
          refine dr_pure 23 hT rfl (by decide +kernel) rfl rfl rfl ?_
          refine dr_pure 24 hT rfl (by decide +kernel) rfl rfl rfl ?_
          exact f1 _ _ ⟨_, by simp [hop], hS, rfl, rfl, rfl, rfl, trivial⟩
        · refine dr_yes 10 rfl (by decide +kernel) rfl rfl rfl rfl rfl (by first | (simp only [cmpP]; omega) | (simp [cmpP]; done) | (simp [cmpP]; omega)) ?_
          refine dr_pure 11 hT rfl (by decide +kernel) rfl rfl rfl ?_
          refine dr_not 12 rfl (by decide +kernel) rfl rfl ?_
          refine dr_not 13 rfl (by decide +kernel) rfl rfl ?_
          refine dr_not 14 rfl (by decide +kernel) rfl rfl ?_
          refine dr_not 15 rfl (by decide +kernel) rfl rfl ?_
          refine dr_not 16 rfl (by decide +kernel) rfl rfl ?_
          refine dr_not 17 rfl (by decide +kernel) rfl rfl ?_
          refine dr_not 18 rfl (by decide +kernel) rfl rfl ?_
          refine dr_not 19 rfl (by decide +kernel) rfl rfl ?_
          refine dr_not 20 rfl (by decide +kernel) rfl rfl ?_
          refine dr_not 21 rfl (by decide +kernel) rfl rfl ?_
          refine dr_not 22 rfl (by decide +kernel) rfl rfl ?_
          refine dr_pure 23 hT rfl (by decide +kernel) rfl rfl rfl ?_
          refine dr_pure 24 hT rfl (by decide +kernel) rfl rfl rfl ?_
          exact f1 _ _ ⟨_, by simp [hop], hS, rfl, rfl, rfl, rfl, trivial⟩
      · refine pl_no rfl rfl rfl rfl rfl rfl (by first | (simp only [cmpP]; omega) | (simp [cmpP]; done) | (simp [cmpP]; omega)) ?_
        (repeat (first | refine pl_pure hT rfl rfl rfl ?_ | refine pl_nil ?_ | refine rn_seq ?_ | refine rn_plain ?_ | refine rn_block ?_ | refine rn_inBlock ?_ | refine rn_skip ?_ | refine rn_true rfl ?_ | refine rn_false rfl ?_ | refine rn_exit rfl ?_ | refine pl_not rfl rfl ?_))
        rw [List.take_of_length_le (by omega), List.take_of_length_le (by omega)] at htk
        exact rn_ret Tryd.func22 (.inl ⟨_, rfl, rfl⟩) ⟨by rw [htk], hk2⟩
    · refine pl_yes rfl rfl rfl rfl rfl (by first | (simp only [cmpP]; omega) | (simp [cmpP]; done) | (simp [cmpP]; omega)) ?_
      (repeat (first | refine pl_pure hT rfl rfl rfl ?_ | refine pl_nil ?_ | refine rn_seq ?_ | refine rn_plain ?_ | refine rn_block ?_ | refine rn_inBlock ?_ | refine rn_skip ?_ | refine rn_true rfl ?_ | refine rn_false rfl ?_ | refine rn_exit rfl ?_ | refine pl_not rfl rfl ?_))
      exact rn_ret Tryd.func22 (.inl ⟨_, rfl, rfl⟩) ⟨by rw [eqSs_ne hn], Keep.refl _ _⟩
end E
end Go.Proofs.YthbkcadiejfgaacDoor

/- Contract of the document's Same. -/
namespace Go.Proofs.YthbkcadiejfgaacDoor
set_option maxRecDepth 20000
set_option maxHeartbeats 4000000
namespace E
open Go.Proofs

theorem refSame_ret {F F' : Nat → Prop} {w : World} {x y : Value} {vs vs' : List VarT} {body body' : List ST} (h : ProgV F w x vs body) (h' : ProgV F' w y vs' body') (hF : In F w) (hF' : In F' w) (h30 : vs.length ≤ 100000) (hsz : szSs body ≤ 100000) :
    Ret Tryd.prog 11 [x, y] w fun r w' => r = .bool (eqP vs body vs' body') ∧ Keep [] w w' := by
  obtain ⟨vv, bv, rfl, hv, hb⟩ := h
  obtain ⟨vv', bv', rfl, hv', hb'⟩ := h'
  obtain ⟨av, capv, rfl⟩ := hv.form
  obtain ⟨ab, capb, rfl⟩ := hb.form
  obtain ⟨av', capv', rfl⟩ := hv'.form
  obtain ⟨ab', capb', rfl⟩ := hb'.form
  refine ret_of 39 Tryd.func11 rfl rfl (by simp) ?_
  (repeat (first | refine pl_pure hT rfl rfl rfl ?_ | refine pl_nil ?_ | refine rn_seq ?_ | refine rn_plain ?_ | refine rn_block ?_ | refine rn_inBlock ?_ | refine rn_skip ?_ | refine rn_true rfl ?_ | refine rn_false rfl ?_ | refine rn_exit rfl ?_ | refine pl_not rfl rfl ?_))
  refine pl_op rfl rfl (opTo_boxN [.slice av vs.length capv, .slice ab body.length capb] rfl rfl rfl ?_)
  intro w1 p1 hp1 hs1 hk1 hB1'
  refine pl_op rfl rfl (opTo_boxN [.slice av' vs'.length capv', .slice ab' body'.length capb'] rfl rfl rfl ?_)
  intro w2 p2 hp2 hs2 hk2 hB2
  have hB1 := hk2.blk hB1' (by simp)
  have hk := hk1.tr hk2
  clear hB1' hk1 hk2
  unfold eqP
  by_cases hn : vs.length = vs'.length
  · (repeat (first | refine pl_pure hT rfl rfl rfl ?_ | refine pl_nil ?_ | refine rn_seq ?_ | refine rn_plain ?_ | refine rn_block ?_ | refine rn_inBlock ?_ | refine rn_skip ?_ | refine rn_true rfl ?_ | refine rn_false rfl ?_ | refine rn_exit rfl ?_ | refine pl_not rfl rfl ?_ | refine pl_val _ rfl rfl (val_load1 hT rfl rfl rfl (Blk.cell (by assumption) (by rfl))) ?_ | refine pl_yes rfl rfl rfl rfl rfl (by first | (simp only [cmpP]; omega) | (simp [cmpP]; done) | (simp [cmpP]; omega)) ?_ | refine pl_no rfl rfl rfl rfl rfl rfl (by first | (simp only [cmpP]; omega) | (simp [cmpP]; done) | (simp [cmpP]; omega)) ?_))
    refine pl_op rfl rfl (opTo_call rfl rfl rfl rfl (by decide +kernel) ((sameList_ret _ body (Nat.lt_succ_self _) hsz (hb.keep hk hF.stays) (hb'.keep hk hF'.stays) (hF.keep hk) (hF'.keep hk)).mono ?_))
    rintro v3 w3 ⟨rfl, hk3⟩
    have hk3w := hk.tr hk3
    cases hq : eqSs body body' with
    | false =>
      (repeat (first | refine pl_pure hT rfl rfl rfl ?_ | refine pl_nil ?_ | refine rn_seq ?_ | refine rn_plain ?_ | refine rn_block ?_ | refine rn_inBlock ?_ | refine rn_skip ?_ | refine rn_true rfl ?_ | refine rn_false rfl ?_ | refine rn_exit rfl ?_ | refine pl_not rfl rfl ?_))
      exact rn_ret Tryd.func11 (.inl ⟨_, rfl, rfl⟩) ⟨by simp, hk3w⟩
    | true =>
      rw [Bool.and_true]
      (repeat (first | refine pl_pure hT rfl rfl rfl ?_ | refine pl_nil ?_ | refine rn_seq ?_ | refine rn_plain ?_ | refine rn_block ?_ | refine rn_inBlock ?_ | refine rn_skip ?_ | refine rn_true rfl ?_ | refine rn_false rfl ?_ | refine rn_exit rfl ?_ | refine pl_not rfl rfl ?_))
      refine rn_ind (fun m σ w' => ∃ i : Nat, i ≤ vs.length ∧ m = vs.length - i ∧ σ = [(2, .pointer (some ⟨p1, 0, none⟩)), (3, .pointer (some ⟨p2, 0, none⟩)), (5, .int .i64 (i : Nat))] ∧ eqVs (vs.take i) (vs'.take i) = true ∧ Keep [] w2 w') vs.length _ ?_ ⟨0, by omega, by omega, rfl, by simp [eqVs], hk3⟩ ?_
      · exact ⟨rfl, rfl, rfl, trivial⟩
      rintro m σ w4 ih ⟨i, hi, rfl, rfl, heq, hk4⟩
      have hk4w := hk.tr hk4
      (repeat (first | refine pl_pure hT rfl rfl rfl ?_ | refine pl_nil ?_ | refine rn_seq ?_ | refine rn_plain ?_ | refine rn_block ?_ | refine rn_inBlock ?_ | refine rn_skip ?_ | refine rn_true rfl ?_ | refine rn_false rfl ?_ | refine rn_exit rfl ?_ | refine pl_not rfl rfl ?_))
      refine pl_val _ rfl rfl (val_load1 hT rfl rfl rfl ((hk4.blk hB1 (by simp)).cell rfl)) ?_
      (repeat (first | refine pl_pure hT rfl rfl rfl ?_ | refine pl_nil ?_ | refine rn_seq ?_ | refine rn_plain ?_ | refine rn_block ?_ | refine rn_inBlock ?_ | refine rn_skip ?_ | refine rn_true rfl ?_ | refine rn_false rfl ?_ | refine rn_exit rfl ?_ | refine pl_not rfl rfl ?_))
      by_cases hlt : i < vs.length
      · refine pl_yes rfl rfl rfl rfl rfl (by first | (simp only [cmpP]; omega) | (simp [cmpP]; done) | (simp [cmpP]; omega)) ?_
        (repeat (first | refine pl_pure hT rfl rfl rfl ?_ | refine pl_nil ?_ | refine rn_seq ?_ | refine rn_plain ?_ | refine rn_block ?_ | refine rn_inBlock ?_ | refine rn_skip ?_ | refine rn_true rfl ?_ | refine rn_false rfl ?_ | refine rn_exit rfl ?_ | refine pl_not rfl rfl ?_))
        have hx : vs[i]? = some vs[i] := List.getElem?_eq_getElem hlt
        have hy : vs'[i]? = some (vs'[i]'(by omega)) := List.getElem?_eq_getElem (by omega)
        obtain ⟨b1, q1, _, hvv, hF1, hr1⟩ := hv.at hx
        cases hvv
        obtain ⟨b2, q2, _, hvv, hF2, hr2⟩ := hv'.at hy
        cases hvv
        have hsp := eqVs_split hn hx hy
        have htk := eqVs_take hn hx hy
        rw [heq, Bool.true_and] at hsp htk
        generalize vs[i] = u at *
        generalize vs'[i]'(by omega) = z at *
        obtain ⟨us, uz⟩ := u
        obtain ⟨zs, zz⟩ := z
        refine rn_draw (fun w' => Keep [] w4 w') [] hMix ?_
        have hS : Keep [] w4 w4.drew := (Keep.refl _ _).drew
        generalize w4.drew = w5 at *
        refine dr_pure 0 hT rfl (by decide +kernel) rfl rfl rfl ?_
        refine dr_val 1 _ rfl (by decide +kernel) rfl rfl (fun w9 hS9 => val_load1 hT rfl rfl rfl (((hk4.tr hS9).blk hB1 (by simp)).cell rfl)) hS ?_
        refine dr_pure 2 hT rfl (by decide +kernel) rfl rfl rfl ?_
        refine dr_any 3 _ rfl (by decide +kernel) rfl rfl (fun w => val_index i hT rfl rfl rfl rfl rfl hlt w) ?_
        refine dr_val 4 (.agg #[.string us, .int .i64 uz]) rfl (by decide +kernel) rfl rfl (fun w9 hS9 => val_load (vcell (us, uz)) hT rfl rfl rfl (range_keep hr1 (hk4w.tr hS9) (hF _ hF1) (by simp))) hS ?_
        refine dr_pure 5 hT rfl (by decide +kernel) rfl rfl rfl ?_
        refine dr_val 6 _ rfl (by decide +kernel) rfl rfl (fun w9 hS9 => val_load1 hT rfl rfl rfl (((hk4.tr hS9).blk hB2 (by simp)).cell rfl)) hS ?_
        refine dr_pure 7 hT rfl (by decide +kernel) rfl rfl rfl ?_
        refine dr_any 8 _ rfl (by decide +kernel) rfl rfl (fun w => val_index i hT rfl rfl rfl rfl rfl (by omega) w) ?_
        refine dr_val 9 (.agg #[.string zs, .int .i64 zz]) rfl (by decide +kernel) rfl rfl (fun w9 hS9 => val_load (vcell (zs, zz)) hT rfl rfl rfl (range_keep hr2 (hk4w.tr hS9) (hF' _ hF2) (by simp))) hS ?_
        refine dr_any 10 (.bool (!(eqV (us, uz) (zs, zz)))) rfl (by decide +kernel) rfl rfl (fun w => val_nePair us zs uz zz _ (by decide +kernel) rfl rfl rfl rfl w) ?_
        refine dr_done (by decide +kernel) ?_
        cases hqv : eqV (us, uz) (zs, zz) with
        | false =>
          (repeat (first | refine pl_pure hT rfl rfl rfl ?_ | refine pl_nil ?_ | refine rn_seq ?_ | refine rn_plain ?_ | refine rn_block ?_ | refine rn_inBlock ?_ | refine rn_skip ?_ | refine rn_true rfl ?_ | refine rn_false rfl ?_ | refine rn_exit rfl ?_ | refine pl_not rfl rfl ?_))
          exact rn_ret Tryd.func11 (.inl ⟨_, rfl, rfl⟩) ⟨by rw [hsp, hqv]; rfl, hk4w.tr hS⟩
        | true =>
          (repeat (first | refine pl_pure hT rfl rfl rfl ?_ | refine pl_nil ?_ | refine rn_seq ?_ | refine rn_plain ?_ | refine rn_block ?_ | refine rn_inBlock ?_ | refine rn_skip ?_ | refine rn_true rfl ?_ | refine rn_false rfl ?_ | refine rn_exit rfl ?_ | refine pl_not rfl rfl ?_))
          refine pl_num (((i + 1 : Nat) : Int)) rfl rfl rfl rfl rfl (by simp only [ariP]; omega) ?_
          (repeat (first | refine pl_pure hT rfl rfl rfl ?_ | refine pl_nil ?_ | refine rn_seq ?_ | refine rn_plain ?_ | refine rn_block ?_ | refine rn_inBlock ?_ | refine rn_skip ?_ | refine rn_true rfl ?_ | refine rn_false rfl ?_ | refine rn_exit rfl ?_ | refine pl_not rfl rfl ?_))
          refine rn_sub ?_ (ih (vs.length - (i + 1)) [(2, .pointer (some ⟨p1, 0, none⟩)), (3, .pointer (some ⟨p2, 0, none⟩)), (5, .int .i64 ((i + 1 : Nat) : Int))] w5 (by omega) ⟨i + 1, by omega, rfl, rfl, by rw [htk, hqv], hk4.tr hS⟩)
          exact ⟨rfl, rfl, rfl, trivial⟩
      · refine pl_no rfl rfl rfl rfl rfl rfl (by first | (simp only [cmpP]; omega) | (simp [cmpP]; done) | (simp [cmpP]; omega)) ?_
        (repeat (first | refine pl_pure hT rfl rfl rfl ?_ | refine pl_nil ?_ | refine rn_seq ?_ | refine rn_plain ?_ | refine rn_block ?_ | refine rn_inBlock ?_ | refine rn_skip ?_ | refine rn_true rfl ?_ | refine rn_false rfl ?_ | refine rn_exit rfl ?_ | refine pl_not rfl rfl ?_))
        rw [List.take_of_length_le (by omega), List.take_of_length_le (by omega)] at heq
        exact rn_ret Tryd.func11 (.inl ⟨_, rfl, rfl⟩) ⟨by rw [heq], hk4w⟩
  · (repeat (first | refine pl_pure hT rfl rfl rfl ?_ | refine pl_nil ?_ | refine rn_seq ?_ | refine rn_plain ?_ | refine rn_block ?_ | refine rn_inBlock ?_ | refine rn_skip ?_ | refine rn_true rfl ?_ | refine rn_false rfl ?_ | refine rn_exit rfl ?_ | refine pl_not rfl rfl ?_ | refine pl_val _ rfl rfl (val_load1 hT rfl rfl rfl (Blk.cell (by assumption) (by rfl))) ?_ | refine pl_yes rfl rfl rfl rfl rfl (by first | (simp only [cmpP]; omega) | (simp [cmpP]; done) | (simp [cmpP]; omega)) ?_ | refine pl_no rfl rfl rfl rfl rfl rfl (by first | (simp only [cmpP]; omega) | (simp [cmpP]; done) | (simp [cmpP]; omega)) ?_))
    refine rn_ret Tryd.func11 (.inl ⟨_, rfl, rfl⟩) ⟨?_, hk⟩
    have : eqVs vs vs' = false := by
      cases he : eqVs vs vs' with
      | false => rfl
      | true => exact absurd (eqVs_len he) hn
    rw [this]
    rfl
end E
end Go.Proofs.YthbkcadiejfgaacDoor

/- The law of blanks. -/
namespace Go.Proofs.YthbkcadiejfgaacDoor
set_option maxRecDepth 20000
set_option maxHeartbeats 4000000
namespace E
open Go.Proofs

theorem parseBlanks_ret (hC : PkC) (l : List UInt8) {w : World} (hw : Lw w) : Ret Tryd.prog 5 [.string (str l)] w fun r w' => r = .bool true ∧ Keep [] w w' := by
  refine ret_of 90 Tryd.func5 rfl rfl (by simp) ?_
  (repeat (first | refine pl_pure hT rfl rfl rfl ?_ | refine pl_nil ?_ | refine rn_seq ?_ | refine rn_plain ?_ | refine rn_block ?_ | refine rn_inBlock ?_ | refine rn_skip ?_ | refine rn_true rfl ?_ | refine rn_false rfl ?_ | refine rn_exit rfl ?_ | refine pl_not rfl rfl ?_))
  refine pl_op rfl rfl (opTo_call (fst := []) (cap := []) rfl rfl rfl rfl (by decide +kernel) ((parseBegun_ret hC hw).mono ?_))
  rintro r w0 ⟨rfl, hk0⟩
  have hw0 := hw.keep hk0
  (repeat (first | refine pl_pure hT rfl rfl rfl ?_ | refine pl_nil ?_ | refine rn_seq ?_ | refine rn_plain ?_ | refine rn_block ?_ | refine rn_inBlock ?_ | refine rn_skip ?_ | refine rn_true rfl ?_ | refine rn_false rfl ?_ | refine rn_exit rfl ?_ | refine pl_not rfl rfl ?_))
  refine pl_val _ rfl rfl (val_len l (by decide +kernel) rfl rfl w0) ?_
  by_cases hl : 1900 < l.length
  · refine pl_yes rfl rfl rfl rfl rfl (by first | (simp only [cmpP]; omega) | (simp [cmpP]; done) | (simp [cmpP]; omega)) ?_
    (repeat (first | refine pl_pure hT rfl rfl rfl ?_ | refine pl_nil ?_ | refine rn_seq ?_ | refine rn_plain ?_ | refine rn_block ?_ | refine rn_inBlock ?_ | refine rn_skip ?_ | refine rn_true rfl ?_ | refine rn_false rfl ?_ | refine rn_exit rfl ?_ | refine pl_not rfl rfl ?_))
    exact rn_ret Tryd.func5 (.inl ⟨_, rfl, rfl⟩) ⟨rfl, hk0⟩
  refine pl_no rfl rfl rfl rfl rfl rfl (by first | (simp only [cmpP]; omega) | (simp [cmpP]; done) | (simp [cmpP]; omega)) ?_
  (repeat (first | refine pl_pure hT rfl rfl rfl ?_ | refine pl_nil ?_ | refine rn_seq ?_ | refine rn_plain ?_ | refine rn_block ?_ | refine rn_inBlock ?_ | refine rn_skip ?_ | refine rn_true rfl ?_ | refine rn_false rfl ?_ | refine rn_exit rfl ?_ | refine pl_not rfl rfl ?_))
  cases hX : parseOf l with
  | error e =>
    have he := parseOf_err hX
    refine pl_op rfl rfl (opTo_call (fst := []) (cap := []) rfl rfl rfl rfl (by decide +kernel) ((hC.parse l (by omega) hw0).mono ?_))
    rintro r w11 ⟨⟨x, F1, rfl, hprog1, hcap1, hF1⟩, hk10⟩
    rw [hX] at hprog1 ⊢
    have hq := hprog1
    obtain ⟨vv, bv, rfl, hv, hb⟩ := hq
    obtain ⟨av1, cv1, rfl⟩ := hv.form
    obtain ⟨ab1, cb1, rfl⟩ := hb.form
    clear hv hb
    have hin1 : In F1 w11 := fun c hc => (hF1 c hc).2
    (repeat (first | refine pl_pure hT rfl rfl rfl ?_ | refine pl_nil ?_ | refine rn_seq ?_ | refine rn_plain ?_ | refine rn_block ?_ | refine rn_inBlock ?_ | refine rn_skip ?_ | refine rn_true rfl ?_ | refine rn_false rfl ?_ | refine rn_exit rfl ?_ | refine pl_not rfl rfl ?_))
    refine pl_op rfl rfl (opTo_allocN _ rfl zero_pr ?_)
    intro w12 p1 hp10 hs12 hk12 hp2
    refine pl_op rfl rfl (opTo_allocN _ rfl zero_fault ?_)
    intro w13 f1 hf10 hs13 hk13 hf3
    have hp3 := hk13.blk hp2 (by simp)
    (repeat (first | refine pl_pure hT rfl rfl rfl ?_ | refine pl_nil ?_ | refine rn_seq ?_ | refine rn_plain ?_ | refine rn_block ?_ | refine rn_inBlock ?_ | refine rn_skip ?_ | refine rn_true rfl ?_ | refine rn_false rfl ?_ | refine rn_exit rfl ?_ | refine pl_not rfl rfl ?_))
    refine pl_op rfl rfl (opTo_storeN [.slice av1 ([] : List VarT).length cv1, .slice ab1 ([] : List ST).length cb1] rfl rfl rfl rfl size_pr hp3 (by simp [pz]) (one_pr _ _ _ _ _ _) ?_)
    intro w14 hs14 hk14 hp4
    rw [splice_whole (by rfl)] at hp4
    have hf4 := hk14.blk hf3 (by simp; omega)
    refine pl_op rfl rfl (opTo_storeN [.int .i64 e.1, .int .i64 e.2] rfl rfl rfl rfl size_fault hf4 (by simp) (one_fault _ _) ?_)
    intro w15 hs15 hk15 hf1
    rw [splice_whole (by rfl)] at hf1
    have hp1 := hk15.blk hp4 (by simp; omega)
    have hk1 : Keep [] w11 w15 := ((hk12.tr hk13).trB hk14 (by omega)).trB hk15 (by omega)
    clear hp2 hf3 hp3 hp4 hf4 hk12 hk13 hk14 hk15
    (repeat (first | refine pl_pure hT rfl rfl rfl ?_ | refine pl_nil ?_ | refine rn_seq ?_ | refine rn_plain ?_ | refine rn_block ?_ | refine rn_inBlock ?_ | refine rn_skip ?_ | refine rn_true rfl ?_ | refine rn_false rfl ?_ | refine rn_exit rfl ?_ | refine pl_not rfl rfl ?_))
    refine pl_val _ rfl rfl (val_load1 hT rfl rfl rfl (hf1.cell rfl)) ?_
    refine pl_yes rfl rfl rfl rfl rfl (by first | (simp only [cmpP]; omega) | (simp [cmpP]; done) | (simp [cmpP]; omega)) ?_
    (repeat (first | refine pl_pure hT rfl rfl rfl ?_ | refine pl_nil ?_ | refine rn_seq ?_ | refine rn_plain ?_ | refine rn_block ?_ | refine rn_inBlock ?_ | refine rn_skip ?_ | refine rn_true rfl ?_ | refine rn_false rfl ?_ | refine rn_exit rfl ?_ | refine pl_not rfl rfl ?_))
    refine pl_val _ rfl rfl (val_load1 hT rfl rfl rfl (hp1.cell rfl)) ?_
    (repeat (first | refine pl_pure hT rfl rfl rfl ?_ | refine pl_nil ?_ | refine rn_seq ?_ | refine rn_plain ?_ | refine rn_block ?_ | refine rn_inBlock ?_ | refine rn_skip ?_ | refine rn_true rfl ?_ | refine rn_false rfl ?_ | refine rn_exit rfl ?_ | refine pl_not rfl rfl ?_))
    refine pl_val _ rfl rfl (val_load1 hT rfl rfl rfl (hp1.cell rfl)) ?_
    (repeat (first | refine pl_pure hT rfl rfl rfl ?_ | refine pl_nil ?_ | refine rn_seq ?_ | refine rn_plain ?_ | refine rn_block ?_ | refine rn_inBlock ?_ | refine rn_skip ?_ | refine rn_true rfl ?_ | refine rn_false rfl ?_ | refine rn_exit rfl ?_ | refine pl_not rfl rfl ?_))
    refine pl_num (0 : Int) rfl rfl rfl rfl rfl (by simp [ariP]) ?_
    refine pl_yes rfl rfl rfl rfl rfl (by first | (simp only [cmpP]; omega) | (simp [cmpP]; done) | (simp [cmpP]; omega)) ?_
    (repeat (first | refine pl_pure hT rfl rfl rfl ?_ | refine pl_nil ?_ | refine rn_seq ?_ | refine rn_plain ?_ | refine rn_block ?_ | refine rn_inBlock ?_ | refine rn_skip ?_ | refine rn_true rfl ?_ | refine rn_false rfl ?_ | refine rn_exit rfl ?_ | refine pl_not rfl rfl ?_))
    exact rn_ret Tryd.func5 (.inl ⟨_, rfl, rfl⟩) ⟨rfl, (hk0.tr hk10).tr hk1⟩
  | ok p =>
    obtain ⟨vs, body⟩ := p
    obtain ⟨hfine, htl, hXa, hXb⟩ := blanks_ok hX (by omega)
    obtain ⟨hsz, hv8, _, _⟩ := parseOf_size hX
    have hnts := fine_len hfine
    refine pl_op rfl rfl (opTo_call (fst := []) (cap := []) rfl rfl rfl rfl (by decide +kernel) ((hC.parse l (by omega) hw0).mono ?_))
    rintro r w11 ⟨⟨x, F1, rfl, hprog1, hcap1, hF1⟩, hk10⟩
    rw [hX] at hprog1 ⊢
    have hq := hprog1
    obtain ⟨vv, bv, rfl, hv, hb⟩ := hq
    obtain ⟨av1, cv1, rfl⟩ := hv.form
    obtain ⟨ab1, cb1, rfl⟩ := hb.form
    clear hv hb
    have hin1 : In F1 w11 := fun c hc => (hF1 c hc).2
    (repeat (first | refine pl_pure hT rfl rfl rfl ?_ | refine pl_nil ?_ | refine rn_seq ?_ | refine rn_plain ?_ | refine rn_block ?_ | refine rn_inBlock ?_ | refine rn_skip ?_ | refine rn_true rfl ?_ | refine rn_false rfl ?_ | refine rn_exit rfl ?_ | refine pl_not rfl rfl ?_))
    refine pl_op rfl rfl (opTo_allocN _ rfl zero_pr ?_)
    intro w12 p1 hp10 hs12 hk12 hp2
    refine pl_op rfl rfl (opTo_allocN _ rfl zero_fault ?_)
    intro w13 f1 hf10 hs13 hk13 hf3
    have hp3 := hk13.blk hp2 (by simp)
    (repeat (first | refine pl_pure hT rfl rfl rfl ?_ | refine pl_nil ?_ | refine rn_seq ?_ | refine rn_plain ?_ | refine rn_block ?_ | refine rn_inBlock ?_ | refine rn_skip ?_ | refine rn_true rfl ?_ | refine rn_false rfl ?_ | refine rn_exit rfl ?_ | refine pl_not rfl rfl ?_))
    refine pl_op rfl rfl (opTo_storeN [.slice av1 vs.length cv1, .slice ab1 body.length cb1] rfl rfl rfl rfl size_pr hp3 (by simp [pz]) (one_pr _ _ _ _ _ _) ?_)
    intro w14 hs14 hk14 hp4
    rw [splice_whole (by rfl)] at hp4
    have hf4 := hk14.blk hf3 (by simp; omega)
    refine pl_op rfl rfl (opTo_storeN [.int .i64 ((0, 0) : Flt).1, .int .i64 ((0, 0) : Flt).2] rfl rfl rfl rfl size_fault hf4 (by simp) (one_fault _ _) ?_)
    intro w15 hs15 hk15 hf1
    rw [splice_whole (by rfl)] at hf1
    have hp1 := hk15.blk hp4 (by simp; omega)
    have hk1 : Keep [] w11 w15 := ((hk12.tr hk13).trB hk14 (by omega)).trB hk15 (by omega)
    clear hp2 hf3 hp3 hp4 hf4 hk12 hk13 hk14 hk15
    have hk05 := (hk0.tr hk10).tr hk1
    (repeat (first | refine pl_pure hT rfl rfl rfl ?_ | refine pl_nil ?_ | refine rn_seq ?_ | refine rn_plain ?_ | refine rn_block ?_ | refine rn_inBlock ?_ | refine rn_skip ?_ | refine rn_true rfl ?_ | refine rn_false rfl ?_ | refine rn_exit rfl ?_ | refine pl_not rfl rfl ?_))
    refine pl_val _ rfl rfl (val_load1 hT rfl rfl rfl (hf1.cell rfl)) ?_
    refine pl_no rfl rfl rfl rfl rfl rfl (by first | (simp only [cmpP]; omega) | (simp [cmpP]; done) | (simp [cmpP]; omega)) ?_
    (repeat (first | refine pl_pure hT rfl rfl rfl ?_ | refine pl_nil ?_ | refine rn_seq ?_ | refine rn_plain ?_ | refine rn_block ?_ | refine rn_inBlock ?_ | refine rn_skip ?_ | refine rn_true rfl ?_ | refine rn_false rfl ?_ | refine rn_exit rfl ?_ | refine pl_not rfl rfl ?_))
    refine pl_op rfl rfl (opTo_call (fst := []) (cap := []) rfl rfl rfl rfl (by decide +kernel) ((scanR_ret l (by omega) (hw.keep hk05)).mono ?_))
    rintro r w2 ⟨lv, rfl, hown, hk2⟩
    obtain ⟨ts, hts⟩ : ∃ ts, ts = toksOf l := ⟨_, rfl⟩
    rw [← hts] at hown hfine htl hXa hXb hnts
    obtain ⟨la, lc, rfl⟩ := hown.form
    (repeat (first | refine pl_pure hT rfl rfl rfl ?_ | refine pl_nil ?_ | refine rn_seq ?_ | refine rn_plain ?_ | refine rn_block ?_ | refine rn_inBlock ?_ | refine rn_skip ?_ | refine rn_true rfl ?_ | refine rn_false rfl ?_ | refine rn_exit rfl ?_ | refine pl_not rfl rfl ?_))
    refine pl_op rfl rfl (opTo_allocN _ rfl zero_fault ?_)
    intro w3 f6 hf60 hs3 hk3 hf3
    (repeat (first | refine pl_pure hT rfl rfl rfl ?_ | refine pl_nil ?_ | refine rn_seq ?_ | refine rn_plain ?_ | refine rn_block ?_ | refine rn_inBlock ?_ | refine rn_skip ?_ | refine rn_true rfl ?_ | refine rn_false rfl ?_ | refine rn_exit rfl ?_ | refine pl_not rfl rfl ?_))
    refine pl_op rfl rfl (opTo_storeN [.int .i64 (faultOf l).1, .int .i64 (faultOf l).2] rfl rfl rfl rfl size_fault hf3 (by simp) (one_fault _ _) ?_)
    intro w4 hs4 hk4 hf4
    have hk24 : Keep [] w2 w4 := hk3.trB hk4 (by omega)
    have hown4 := hown.keep hk24 (by simp)
    have hk14 : Keep [] w15 w4 := hk2.tr hk24
    have hja := joinW_len [32, 10] ts
    have hjb := joinW_len [13] ts
    simp only [List.length_cons, List.length_nil] at hja hjb
    (repeat (first | refine pl_pure hT rfl rfl rfl ?_ | refine pl_not rfl rfl ?_ | refine pl_nil ?_ | refine rn_inBlock ?_ | refine rn_skip ?_ | refine rn_true rfl ?_ | refine rn_false rfl ?_ | refine rn_exit rfl ?_))
    refine rn_seq ?_
    refine rn_plain ?_
    (repeat (first | refine pl_pure hT rfl rfl rfl ?_ | refine pl_not rfl rfl ?_ | refine pl_nil ?_ | refine rn_inBlock ?_ | refine rn_skip ?_ | refine rn_true rfl ?_ | refine rn_false rfl ?_ | refine rn_exit rfl ?_))
    refine rn_seq ?_
    refine rn_with (fun σ' w' => w' = w4 ∧ Sub [(3, .pointer (some ⟨p1, 0, none⟩)), (7, .string (str (9 :: joinW [32, 10] ts))), (8, .string (str (joinW [13] ts)))] σ') ?_ ?_
    rotate_left
    · intro fin1
      refine rn_seq ?_
      refine rn_plain ?_
      (repeat (first | refine pl_pure hT rfl rfl rfl ?_ | refine pl_not rfl rfl ?_ | refine pl_nil ?_ | refine rn_inBlock ?_ | refine rn_skip ?_ | refine rn_true rfl ?_ | refine rn_false rfl ?_ | refine rn_exit rfl ?_))
      refine rn_block ?_
      refine rn_ind (fun m σ w' => ∃ i : Nat, i ≤ ts.length ∧ m = ts.length - i ∧ σ = [(3, .pointer (some ⟨p1, 0, none⟩)), (5, .slice la ts.length lc), (7, .string (str (9 :: joinW [32, 10] (ts.take i)))), (8, .string (str (joinW [13] (ts.take i)))), (9, .int .i64 (i : Nat))] ∧ w' = w4) ts.length _ ?_ ⟨0, by omega, by omega, rfl, rfl⟩ ?_
      · have e1 : 9 :: joinW [32, 10] (ts.take 0) = [9] := by simp [joinW]
        have e2 : joinW [13] (ts.take 0) = [] := by simp [joinW]
        exact ⟨rfl, rfl, by rw [e1]; rfl, by rw [e2]; rfl, rfl, trivial⟩
      rintro m σ w6 ih2 ⟨i, hi, rfl, rfl, rfl⟩
      (repeat (first | refine pl_pure hT rfl rfl rfl ?_ | refine pl_nil ?_ | refine rn_seq ?_ | refine rn_plain ?_ | refine rn_block ?_ | refine rn_inBlock ?_ | refine rn_skip ?_ | refine rn_true rfl ?_ | refine rn_false rfl ?_ | refine rn_exit rfl ?_ | refine pl_not rfl rfl ?_))
      by_cases hlt : i < ts.length
      · refine pl_yes rfl rfl rfl rfl rfl (by first | (simp only [cmpP]; omega) | (simp [cmpP]; done) | (simp [cmpP]; omega)) ?_
        (repeat (first | refine pl_pure hT rfl rfl rfl ?_ | refine pl_nil ?_ | refine rn_seq ?_ | refine rn_plain ?_ | refine rn_block ?_ | refine rn_inBlock ?_ | refine rn_skip ?_ | refine rn_true rfl ?_ | refine rn_false rfl ?_ | refine rn_exit rfl ?_ | refine pl_not rfl rfl ?_))
        obtain ⟨t, ht⟩ : ∃ t, t = ts[i] := ⟨_, rfl⟩
        have hx : ts[i]? = some t := by rw [ht]; exact List.getElem?_eq_getElem hlt
        have hf := flat_at (f := tokL) (k := 4) (fun p _ => tokL_length p) hx
        obtain ⟨g, cap, hv', hr⟩ := hown4.range (q := i * 4) (cs := tokL t) (by rw [tokL_length]; exact hf) (by omega)
        cases hv'
        have hta := joinW_take [32, 10] hx
        have htb := joinW_take [13] hx
        have hla := joinW_len [32, 10] (ts.take (i + 1))
        have hlb := joinW_len [13] (ts.take (i + 1))
        have hbound : textLen (ts.take (i + 1)) ≤ textLen ts := textLen_take ts (i + 1)
        have hcount : (ts.take (i + 1)).length ≤ ts.length := by simp; omega
        simp only [List.length_cons, List.length_nil] at hla hlb
        have hla' : (joinW [32, 10] (ts.take i)).length + (t.text.length + 2) ≤ 6000 := by
          rw [hta, List.length_append, List.length_append] at hla
          simp only [List.length_cons, List.length_nil] at hla
          omega
        have hlb' : (joinW [13] (ts.take i)).length + (t.text.length + 1) ≤ 6000 := by
          rw [htb, List.length_append, List.length_append] at hlb
          simp only [List.length_cons, List.length_nil] at hlb
          omega
        refine pl_val _ rfl rfl (val_index i hT rfl rfl rfl rfl rfl hlt w6) ?_
        (repeat (first | refine pl_pure hT rfl rfl rfl ?_ | refine pl_nil ?_ | refine rn_seq ?_ | refine rn_plain ?_ | refine rn_block ?_ | refine rn_inBlock ?_ | refine rn_skip ?_ | refine rn_true rfl ?_ | refine rn_false rfl ?_ | refine rn_exit rfl ?_ | refine pl_not rfl rfl ?_))
        have hr' : w6.rangeAt g (0 + i * 4) (tokL t) := by rw [Nat.zero_add]; exact hr
        refine pl_val _ rfl rfl (val_load1 hT rfl rfl rfl (hr' 1 (.string (str t.text)) rfl)) ?_
        refine pl_val _ rfl rfl (val_add t.text [32, 10] rfl rfl rfl (by simp; omega) w6) ?_
        refine pl_val _ rfl rfl (val_add (9 :: joinW [32, 10] (ts.take i)) _ rfl rfl rfl (by simp; omega) w6) ?_
        (repeat (first | refine pl_pure hT rfl rfl rfl ?_ | refine pl_nil ?_ | refine rn_seq ?_ | refine rn_plain ?_ | refine rn_block ?_ | refine rn_inBlock ?_ | refine rn_skip ?_ | refine rn_true rfl ?_ | refine rn_false rfl ?_ | refine rn_exit rfl ?_ | refine pl_not rfl rfl ?_))
        refine pl_val _ rfl rfl (val_index i hT rfl rfl rfl rfl rfl hlt w6) ?_
        (repeat (first | refine pl_pure hT rfl rfl rfl ?_ | refine pl_nil ?_ | refine rn_seq ?_ | refine rn_plain ?_ | refine rn_block ?_ | refine rn_inBlock ?_ | refine rn_skip ?_ | refine rn_true rfl ?_ | refine rn_false rfl ?_ | refine rn_exit rfl ?_ | refine pl_not rfl rfl ?_))
        refine pl_val _ rfl rfl (val_load1 hT rfl rfl rfl (hr' 1 (.string (str t.text)) rfl)) ?_
        refine pl_val _ rfl rfl (val_add t.text [13] rfl rfl rfl (by simp; omega) w6) ?_
        refine pl_val _ rfl rfl (val_add (joinW [13] (ts.take i)) _ rfl rfl rfl (by simp; omega) w6) ?_
        (repeat (first | refine pl_pure hT rfl rfl rfl ?_ | refine pl_nil ?_ | refine rn_seq ?_ | refine rn_plain ?_ | refine rn_block ?_ | refine rn_inBlock ?_ | refine rn_skip ?_ | refine rn_true rfl ?_ | refine rn_false rfl ?_ | refine rn_exit rfl ?_ | refine pl_not rfl rfl ?_))
        refine pl_num (((i + 1 : Nat) : Int)) rfl rfl rfl rfl rfl (by simp only [ariP]; omega) ?_
        (repeat (first | refine pl_pure hT rfl rfl rfl ?_ | refine pl_nil ?_ | refine rn_seq ?_ | refine rn_plain ?_ | refine rn_block ?_ | refine rn_inBlock ?_ | refine rn_skip ?_ | refine rn_true rfl ?_ | refine rn_false rfl ?_ | refine rn_exit rfl ?_ | refine pl_not rfl rfl ?_))
        refine rn_sub ?_ (ih2 (ts.length - (i + 1)) [(3, .pointer (some ⟨p1, 0, none⟩)), (5, .slice (some ⟨g, 0, none⟩) ts.length lc), (7, .string (str (9 :: joinW [32, 10] (ts.take (i + 1))))), (8, .string (str (joinW [13] (ts.take (i + 1))))), (9, .int .i64 ((i + 1 : Nat) : Int))] w6 (by omega) ⟨i + 1, by omega, rfl, rfl, rfl⟩)
        rw [hta, htb]
        exact ⟨rfl, rfl, rfl, rfl, rfl, trivial⟩
      · refine pl_no rfl rfl rfl rfl rfl rfl (by first | (simp only [cmpP]; omega) | (simp [cmpP]; done) | (simp [cmpP]; omega)) ?_
        (repeat (first | refine pl_pure hT rfl rfl rfl ?_ | refine pl_not rfl rfl ?_ | refine pl_nil ?_ | refine rn_inBlock ?_ | refine rn_skip ?_ | refine rn_true rfl ?_ | refine rn_false rfl ?_ | refine rn_exit rfl ?_))
        rw [List.take_of_length_le (by omega)]
        exact fin1 _ _ ⟨rfl, rfl, rfl, rfl, trivial⟩
    rintro σ' w4' ⟨hww, hsub⟩
    rw [hww]
    refine rn_sub hsub ?_
    have hw4 := (hw.keep hk05).keep hk14
    (repeat (first | refine pl_pure hT rfl rfl rfl ?_ | refine pl_nil ?_ | refine rn_seq ?_ | refine rn_plain ?_ | refine rn_block ?_ | refine rn_inBlock ?_ | refine rn_skip ?_ | refine rn_true rfl ?_ | refine rn_false rfl ?_ | refine rn_exit rfl ?_ | refine pl_not rfl rfl ?_))
    refine pl_op rfl rfl (opTo_call (fst := []) (cap := []) rfl rfl rfl rfl (by decide +kernel) ((hC.parse (9 :: joinW [32, 10] ts) (by simp only [List.length_cons]; omega) hw4).mono ?_))
    rintro r w51 ⟨⟨x, F5, rfl, hprog5, hcap5, hF5⟩, hk50⟩
    rw [hXa] at hprog5 ⊢
    have hq := hprog5
    obtain ⟨vv, bv, rfl, hv, hb⟩ := hq
    obtain ⟨av5, cv5, rfl⟩ := hv.form
    obtain ⟨ab5, cb5, rfl⟩ := hb.form
    clear hv hb
    have hin5 : In F5 w51 := fun c hc => (hF5 c hc).2
    (repeat (first | refine pl_pure hT rfl rfl rfl ?_ | refine pl_nil ?_ | refine rn_seq ?_ | refine rn_plain ?_ | refine rn_block ?_ | refine rn_inBlock ?_ | refine rn_skip ?_ | refine rn_true rfl ?_ | refine rn_false rfl ?_ | refine rn_exit rfl ?_ | refine pl_not rfl rfl ?_))
    refine pl_op rfl rfl (opTo_allocN _ rfl zero_pr ?_)
    intro w52 p5 hp50 hs52 hk52 hp2
    refine pl_op rfl rfl (opTo_allocN _ rfl zero_fault ?_)
    intro w53 f5 hf50 hs53 hk53 hf3
    have hp3 := hk53.blk hp2 (by simp)
    (repeat (first | refine pl_pure hT rfl rfl rfl ?_ | refine pl_nil ?_ | refine rn_seq ?_ | refine rn_plain ?_ | refine rn_block ?_ | refine rn_inBlock ?_ | refine rn_skip ?_ | refine rn_true rfl ?_ | refine rn_false rfl ?_ | refine rn_exit rfl ?_ | refine pl_not rfl rfl ?_))
    refine pl_op rfl rfl (opTo_storeN [.slice av5 vs.length cv5, .slice ab5 body.length cb5] rfl rfl rfl rfl size_pr hp3 (by simp [pz]) (one_pr _ _ _ _ _ _) ?_)
    intro w54 hs54 hk54 hp4
    rw [splice_whole (by rfl)] at hp4
    have hf4 := hk54.blk hf3 (by simp; omega)
    refine pl_op rfl rfl (opTo_storeN [.int .i64 ((0, 0) : Flt).1, .int .i64 ((0, 0) : Flt).2] rfl rfl rfl rfl size_fault hf4 (by simp) (one_fault _ _) ?_)
    intro w55 hs55 hk55 hf5
    rw [splice_whole (by rfl)] at hf5
    have hp5 := hk55.blk hp4 (by simp; omega)
    have hk5 : Keep [] w51 w55 := ((hk52.tr hk53).trB hk54 (by omega)).trB hk55 (by omega)
    clear hp2 hf3 hp3 hp4 hf4 hk52 hk53 hk54 hk55
    have hw5 := (hw4.keep hk50).keep hk5
    (repeat (first | refine pl_pure hT rfl rfl rfl ?_ | refine pl_nil ?_ | refine rn_seq ?_ | refine rn_plain ?_ | refine rn_block ?_ | refine rn_inBlock ?_ | refine rn_skip ?_ | refine rn_true rfl ?_ | refine rn_false rfl ?_ | refine rn_exit rfl ?_ | refine pl_not rfl rfl ?_))
    refine pl_op rfl rfl (opTo_call (fst := []) (cap := []) rfl rfl rfl rfl (by decide +kernel) ((hC.parse (joinW [13] ts) (by omega) hw5).mono ?_))
    rintro r w61 ⟨⟨x, F6, rfl, hprog6, hcap6, hF6⟩, hk60⟩
    rw [hXb] at hprog6 ⊢
    have hq := hprog6
    obtain ⟨vv, bv, rfl, hv, hb⟩ := hq
    obtain ⟨av6, cv6, rfl⟩ := hv.form
    obtain ⟨ab6, cb6, rfl⟩ := hb.form
    clear hv hb
    have hin6 : In F6 w61 := fun c hc => (hF6 c hc).2
    (repeat (first | refine pl_pure hT rfl rfl rfl ?_ | refine pl_nil ?_ | refine rn_seq ?_ | refine rn_plain ?_ | refine rn_block ?_ | refine rn_inBlock ?_ | refine rn_skip ?_ | refine rn_true rfl ?_ | refine rn_false rfl ?_ | refine rn_exit rfl ?_ | refine pl_not rfl rfl ?_))
    refine pl_op rfl rfl (opTo_allocN _ rfl zero_pr ?_)
    intro w62 p6 hp60 hs62 hk62 hp2
    refine pl_op rfl rfl (opTo_allocN _ rfl zero_fault ?_)
    intro w63 f6 hf60 hs63 hk63 hf3
    have hp3 := hk63.blk hp2 (by simp)
    (repeat (first | refine pl_pure hT rfl rfl rfl ?_ | refine pl_nil ?_ | refine rn_seq ?_ | refine rn_plain ?_ | refine rn_block ?_ | refine rn_inBlock ?_ | refine rn_skip ?_ | refine rn_true rfl ?_ | refine rn_false rfl ?_ | refine rn_exit rfl ?_ | refine pl_not rfl rfl ?_))
    refine pl_op rfl rfl (opTo_storeN [.slice av6 vs.length cv6, .slice ab6 body.length cb6] rfl rfl rfl rfl size_pr hp3 (by simp [pz]) (one_pr _ _ _ _ _ _) ?_)
    intro w64 hs64 hk64 hp4
    rw [splice_whole (by rfl)] at hp4
    have hf4 := hk64.blk hf3 (by simp; omega)
    refine pl_op rfl rfl (opTo_storeN [.int .i64 ((0, 0) : Flt).1, .int .i64 ((0, 0) : Flt).2] rfl rfl rfl rfl size_fault hf4 (by simp) (one_fault _ _) ?_)
    intro w65 hs65 hk65 hf6
    rw [splice_whole (by rfl)] at hf6
    have hp6 := hk65.blk hp4 (by simp; omega)
    have hk6 : Keep [] w61 w65 := ((hk62.tr hk63).trB hk64 (by omega)).trB hk65 (by omega)
    clear hp2 hf3 hp3 hp4 hf4 hk62 hk63 hk64 hk65
    have hka : Keep [] w15 w65 := ((((hk14.tr hk50).tr hk5).tr hk60).tr hk6)
    have hkb : Keep [] w55 w65 := hk60.tr hk6
    have hP1 := hprog1.keep (hk1.tr hka) hin1.stays
    have hP5 := hprog5.keep (hk5.tr hkb) hin5.stays
    have hP6 := hprog6.keep hk6 hin6.stays
    have hI1 := hin1.keep (hk1.tr hka)
    have hI5 := hin5.keep (hk5.tr hkb)
    have hI6 := hin6.keep hk6
    have hb1 := hka.blk hp1 (by simp)
    have hb5 := hkb.blk hp5 (by simp)
    have hg5 := hkb.blk hf5 (by simp)
    (repeat (first | refine pl_pure hT rfl rfl rfl ?_ | refine pl_nil ?_ | refine rn_seq ?_ | refine rn_plain ?_ | refine rn_block ?_ | refine rn_inBlock ?_ | refine rn_skip ?_ | refine rn_true rfl ?_ | refine rn_false rfl ?_ | refine rn_exit rfl ?_ | refine pl_not rfl rfl ?_))
    refine pl_val _ rfl rfl (val_load1 hT rfl rfl rfl (hg5.cell rfl)) ?_
    refine pl_yes rfl rfl rfl rfl rfl (by first | (simp only [cmpP]; omega) | (simp [cmpP]; done) | (simp [cmpP]; omega)) ?_
    (repeat (first | refine pl_pure hT rfl rfl rfl ?_ | refine pl_nil ?_ | refine rn_seq ?_ | refine rn_plain ?_ | refine rn_block ?_ | refine rn_inBlock ?_ | refine rn_skip ?_ | refine rn_true rfl ?_ | refine rn_false rfl ?_ | refine rn_exit rfl ?_ | refine pl_not rfl rfl ?_))
    refine pl_val _ rfl rfl (val_load1 hT rfl rfl rfl (hf6.cell rfl)) ?_
    refine pl_yes rfl rfl rfl rfl rfl (by first | (simp only [cmpP]; omega) | (simp [cmpP]; done) | (simp [cmpP]; omega)) ?_
    (repeat (first | refine pl_pure hT rfl rfl rfl ?_ | refine pl_nil ?_ | refine rn_seq ?_ | refine rn_plain ?_ | refine rn_block ?_ | refine rn_inBlock ?_ | refine rn_skip ?_ | refine rn_true rfl ?_ | refine rn_false rfl ?_ | refine rn_exit rfl ?_ | refine pl_not rfl rfl ?_))
    refine pl_val _ rfl rfl (val_load [.slice av1 vs.length cv1, .slice ab1 body.length cb1] hT rfl rfl rfl (hb1.range (by rfl))) ?_
    refine pl_val _ rfl rfl (val_load [.slice av5 vs.length cv5, .slice ab5 body.length cb5] hT rfl rfl rfl (hb5.range (by rfl))) ?_
    refine pl_op rfl rfl (opTo_call (fst := []) (cap := []) rfl rfl rfl rfl (by decide +kernel) ((refSame_ret hP1 hP5 hI1 hI5 (by show vs.length ≤ _; omega) (by show szSs body ≤ _; omega)).mono ?_))
    rintro r w7 ⟨rfl, hk7⟩
    have er : eqP (prgOf (.ok (vs, body))).1 (prgOf (.ok (vs, body))).2 (prgOf (.ok (vs, body))).1 (prgOf (.ok (vs, body))).2 = true := eqP_refl _ _
    rw [er]
    (repeat (first | refine pl_pure hT rfl rfl rfl ?_ | refine pl_nil ?_ | refine rn_seq ?_ | refine rn_plain ?_ | refine rn_block ?_ | refine rn_inBlock ?_ | refine rn_skip ?_ | refine rn_true rfl ?_ | refine rn_false rfl ?_ | refine rn_exit rfl ?_ | refine pl_not rfl rfl ?_))
    refine pl_val _ rfl rfl (val_load [.slice av1 vs.length cv1, .slice ab1 body.length cb1] hT rfl rfl rfl ((hk7.blk hb1 (by simp)).range (by rfl))) ?_
    refine pl_val _ rfl rfl (val_load [.slice av6 vs.length cv6, .slice ab6 body.length cb6] hT rfl rfl rfl ((hk7.blk hp6 (by simp)).range (by rfl))) ?_
    refine pl_op rfl rfl (opTo_call (fst := []) (cap := []) rfl rfl rfl rfl (by decide +kernel) ((refSame_ret (hP1.keep hk7 hI1.stays) (hP6.keep hk7 hI6.stays) (hI1.keep hk7) (hI6.keep hk7) (by show vs.length ≤ _; omega) (by show szSs body ≤ _; omega)).mono ?_))
    rintro r w8 ⟨rfl, hk8⟩
    rw [er]
    (repeat (first | refine pl_pure hT rfl rfl rfl ?_ | refine pl_nil ?_ | refine rn_seq ?_ | refine rn_plain ?_ | refine rn_block ?_ | refine rn_inBlock ?_ | refine rn_skip ?_ | refine rn_true rfl ?_ | refine rn_false rfl ?_ | refine rn_exit rfl ?_ | refine pl_not rfl rfl ?_))
    exact rn_ret Tryd.func5 (.inl ⟨_, rfl, rfl⟩) ⟨rfl, ((hk05.tr hka).tr hk7).tr hk8⟩
end E
end Go.Proofs.YthbkcadiejfgaacDoor
