/- Several texts in one: RfD, RfS, RfE, CmL, CkA, CkB. -/
import Derived.Test.YtcgigfnbjmlhhadJ04
import Derived.Test.YtcgigfnbjmlhhadJ06
import Derived.Test.YtcgigfnbjmlhhadJ05
/- Contracts of the document's sameExpr, sameList. -/
namespace Go.Proofs.Ytcgigfnbjmlhhad
set_option maxRecDepth 20000
set_option maxHeartbeats 4000000
namespace E
open Go.Proofs

theorem sameExpr_ret : ∀ (s : Nat) (t : ET), szE t ≤ s → szE t ≤ 100000 → ∀ {F F' : Nat → Prop} {w : World} {cs cs' : List Value} {u : ET}, ExprV F w cs t → ExprV F' w cs' u → In F w → In F' w →
    Ret Try.prog 37 [.agg cs.toArray, .agg cs'.toArray] w fun r w' => r = .bool (eqE t u) ∧ Keep [] w w' := by
  intro s
  induction s with
  | zero => intro t ht; have := szE_pos t; omega
  | succ s ih =>
    intro t ht ht3 F F' w cs cs' u h h' hF hF'
    obtain ⟨op, v, n, l⟩ := t
    obtain ⟨op', v', n', l'⟩ := u
    obtain ⟨lv, rfl, hl⟩ := h.inv
    obtain ⟨lv', rfl, hl'⟩ := h'.inv
    obtain ⟨a, ca, rfl⟩ := hl.form
    obtain ⟨b, cb, rfl⟩ := hl'.form
    simp only [szE] at ht ht3
    have hlen := szEs_len l
    refine ret_of 53 Try.func37 rfl rfl (by simp) ?_
    refine au ?_
    refine pl_op rfl rfl (opTo_boxN [.int .i64 op, .int .i64 v, .int .i64 n, .slice a l.length ca] rfl rfl rfl ?_)
    intro w1 x1 hx1 hs1 hk1 hX1'
    refine pl_op rfl rfl (opTo_boxN [.int .i64 op', .int .i64 v', .int .i64 n', .slice b l'.length cb] rfl rfl rfl ?_)
    intro w2 x2 hx2 hs2 hk2 hX2
    have hX1 := hk2.blk hX1' (by simp)
    have hk := hk1.tr hk2
    clear hX1' hk1 hk2
    by_cases h1 : op = op'
    · by_cases h2 : v = v'
      · by_cases h3 : n = n'
        · by_cases h4 : l.length = l'.length
          · refine aub ?_
            have heq : eqE (.mk op v n l) (.mk op' v' n' l') = eqEs l l' := by simp [eqE, h1, h2, h3]
            rw [heq]
            refine rn_ind (fun m σ w' => ∃ i : Nat, i ≤ l.length ∧ m = l.length - i ∧ σ = [(2, .pointer (some ⟨x1, 0, none⟩)), (3, .pointer (some ⟨x2, 0, none⟩)), (5, .int .i64 (i : Nat))] ∧ eqEs (l.take i) (l'.take i) = true ∧ Keep [] w2 w') l.length _ ?_ ⟨0, by omega, by omega, rfl, by simp [eqEs], Keep.refl _ _⟩ ?_
            · exact ⟨rfl, rfl, rfl, trivial⟩
            rintro m σ w3 ih2 ⟨i, hi, rfl, rfl, htk, hk3⟩
            refine au ?_
            refine pl_val _ rfl rfl (val_load1 hT rfl rfl rfl ((hk3.blk hX1 (by simp)).cell rfl)) ?_
            refine au ?_
            by_cases hlt : i < l.length
            · refine ye ?_
              refine au ?_
              have hlt2 : i < l'.length := by omega
              have hx : l[i]? = some l[i] := List.getElem?_eq_getElem hlt
              have hy : l'[i]? = some l'[i] := List.getElem?_eq_getElem hlt2
              have hsz := szEs_at hx
              have hsp := eqEs_split h4 hx hy
              have htk2 := eqEs_take h4 hx hy
              rw [htk, Bool.true_and] at hsp htk2
              have hkw3 := hk.tr hk3
              obtain ⟨b1, q1, _, ci, hv1, hF1, hr1, hc1⟩ := hl.at hx
              cases hv1
              obtain ⟨b2, q2, _, cj, hv2, hF2, hr2, hc2⟩ := hl'.at hy
              cases hv2
              refine rn_draw (fun w' => Keep [] w3 w') [] hMix ?_
              have hS : Keep [] w3 w3.drew := (Keep.refl _ _).drew
              generalize w3.drew = w4 at *
              refine tk 0 ?_
              refine dr_val 1 _ rfl (by decide +kernel) rfl rfl (fun w9 hS9 => val_load1 hT rfl rfl rfl (((hk3.tr hS9).blk hX1 (by simp)).cell rfl)) hS ?_
              refine tk 2 ?_
              refine dr_any 3 _ rfl (by decide +kernel) rfl rfl (fun w => val_index i hT rfl rfl rfl rfl rfl hlt w) ?_
              refine dr_val 4 (.agg ci.toArray) rfl (by decide +kernel) rfl rfl (fun w9 hS9 => val_load ci hT rfl rfl (by rw [hc1.length]; rfl) (range_keep hr1 (hkw3.tr hS9) (hF _ hF1) (by simp))) hS ?_
              refine tk 5 ?_
              refine dr_val 6 _ rfl (by decide +kernel) rfl rfl (fun w9 hS9 => val_load1 hT rfl rfl rfl (((hk3.tr hS9).blk hX2 (by simp)).cell rfl)) hS ?_
              refine tk 7 ?_
              refine dr_any 8 _ rfl (by decide +kernel) rfl rfl (fun w => val_index i hT rfl rfl rfl rfl rfl hlt2 w) ?_
              refine dr_val 9 (.agg cj.toArray) rfl (by decide +kernel) rfl rfl (fun w9 hS9 => val_load cj hT rfl rfl (by rw [hc2.length]; rfl) (range_keep hr2 (hkw3.tr hS9) (hF' _ hF2) (by simp))) hS ?_
              refine dr_op 10 rfl (by decide +kernel) rfl rfl (opTo_call rfl rfl rfl rfl (by decide +kernel) ((ih l[i] (by omega) (by omega) (hc1.keep (hkw3.tr hS) hF.stays) (hc2.keep (hkw3.tr hS) hF'.stays) (hF.keep (hkw3.tr hS)) (hF'.keep (hkw3.tr hS))).mono ?_))
              rintro v5 w5 ⟨rfl, hk5⟩
              refine ⟨fun _ => hS.tr hk5, ?_⟩
              refine tk 11 ?_
              refine dr_done (by decide +kernel) ?_
              have hk35 := (hk3.tr hS).tr hk5
              cases hq : eqE l[i] l'[i] with
              | false =>
                refine au ?_
                exact rn_ret Try.func37 (.inl ⟨_, rfl, rfl⟩) ⟨by rw [hsp, hq]; rfl, hk.tr hk35⟩
              | true =>
                refine au ?_
                refine pl_num (((i + 1 : Nat) : Int)) rfl rfl rfl rfl rfl (by simp only [ariP]; omega) ?_
                refine au ?_
                refine rn_sub ?_ (ih2 (l.length - (i + 1)) [(2, .pointer (some ⟨x1, 0, none⟩)), (3, .pointer (some ⟨x2, 0, none⟩)), (5, .int .i64 ((i + 1 : Nat) : Int))] w5 (by omega) ⟨i + 1, by omega, rfl, rfl, by rw [htk2, hq], hk35⟩)
                exact ⟨rfl, rfl, rfl, trivial⟩
            · refine nay ?_
              refine au ?_
              rw [List.take_of_length_le (by omega), List.take_of_length_le (by omega)] at htk
              exact rn_ret Try.func37 (.inl ⟨_, rfl, rfl⟩) ⟨by rw [htk], hk.tr hk3⟩
          · refine aub ?_
            exact rn_ret Try.func37 (.inl ⟨_, rfl, rfl⟩) ⟨by simp [eqE, eqEs_ne h4], hk⟩
        · refine aub ?_
          exact rn_ret Try.func37 (.inl ⟨_, rfl, rfl⟩) ⟨by simp [eqE, h3], hk⟩
      · refine aub ?_
        exact rn_ret Try.func37 (.inl ⟨_, rfl, rfl⟩) ⟨by simp [eqE, h2], hk⟩
    · refine aub ?_
      exact rn_ret Try.func37 (.inl ⟨_, rfl, rfl⟩) ⟨by simp [eqE, h1], hk⟩

theorem sameList_ret : ∀ (s : Nat) (l : List ST), szSs l < s → szSs l ≤ 100000 → ∀ {F F' : Nat → Prop} {w : World} {x y : Value} {l' : List ST}, StmtsV F w x l → StmtsV F' w y l' → In F w → In F' w →
    Ret Try.prog 22 [x, y] w fun r w' => r = .bool (eqSs l l') ∧ Keep [] w w' := by
  intro s
  induction s with
  | zero => intro l hl; omega
  | succ s ih =>
    intro l hl hl3 F F' w x y l' h h' hF hF'
    obtain ⟨a, ca, rfl⟩ := h.form
    obtain ⟨b, cb, rfl⟩ := h'.form
    have hlen := szSs_len l
    refine ret_of 97 Try.func22 rfl rfl (by simp) ?_
    refine au ?_
    by_cases hn : l.length = l'.length
    · refine nay ?_
      refine au ?_
      refine rn_ind (fun m σ w' => ∃ i : Nat, i ≤ l.length ∧ m = l.length - i ∧ σ = [(0, .slice a l.length ca), (1, .slice b l'.length cb), (5, .int .i64 (i : Nat))] ∧ eqSs (l.take i) (l'.take i) = true ∧ Keep [] w w') l.length _ ?_ ⟨0, by omega, by omega, rfl, by simp [eqSs], Keep.refl _ _⟩ ?_
      · exact ⟨rfl, rfl, rfl, trivial⟩
      rintro m σ w2 ih2 ⟨i, hi, rfl, rfl, htk, hk2⟩
      refine au ?_
      by_cases hlt : i < l.length
      · refine ye ?_
        refine au ?_
        have hlt2 : i < l'.length := by omega
        have hx : l[i]? = some l[i] := List.getElem?_eq_getElem hlt
        have hy : l'[i]? = some l'[i] := List.getElem?_eq_getElem hlt2
        have hsz := szSs_at hx
        obtain ⟨op, v, e, f, lb, lo, hs⟩ : ∃ op v e f lb lo, l[i] = ST.mk op v e f lb lo := by cases l[i]; exact ⟨_, _, _, _, _, _, rfl⟩
        obtain ⟨op', v', e', f', lb', lo', hs'⟩ : ∃ op v e f lb lo, l'[i] = ST.mk op v e f lb lo := by cases l'[i]; exact ⟨_, _, _, _, _, _, rfl⟩
        rw [hs] at hx hsz
        rw [hs'] at hy
        simp only [szS] at hsz
        have hsp := eqSs_split hn hx hy
        have htk2 := eqSs_take hn hx hy
        rw [htk, Bool.true_and] at hsp htk2
        obtain ⟨b1, q1, _, ce, cf, bv, ov, hv1, hA⟩ := (h.keep hk2 hF.stays).stmtAt hx
        cases hv1
        obtain ⟨b2, q2, _, ce', cf', bv', ov', hv2, hB⟩ := (h'.keep hk2 hF'.stays).stmtAt hy
        cases hv2
        have hFA2 := hF.keep hk2
        have hFB2 := hF'.keep hk2
        refine rn_draw (fun w' => Keep [] w2 w') [] hMix ?_
        have hS : Keep [] w2 w2.drew := (Keep.refl _ _).drew
        generalize w2.drew = w3 at *
        refine dr_with 0 1208925819614629174706175 (fun σ' w' => ∃ d : Bool, d = ((((((!(op == op')) || !(v == v')) || !eqE e e') || !eqE f f') || !eqSs lb lb') || !eqSs lo lo') ∧ Keep [] w2 w' ∧ Sub ([(0, .slice (some ⟨b1, q1, none⟩) l.length ca), (1, .slice (some ⟨b2, q2, none⟩) l'.length cb), (5, .int .i64 (i : Nat)), (96, .bool d)]) σ') ?_ ?_
        · rintro σ' w5 ⟨d, hd, hS, hsub⟩
          refine dr_sub hsub ?_
          refine dr_done (by decide +kernel) ?_
          have hdq : d = !eqS (.mk op v e f lb lo) (.mk op' v' e' f' lb' lo') := by
            rw [hd]
            simp only [eqS]
            cases (op == op') <;> cases (v == v') <;> cases eqE e e' <;> cases eqE f f' <;> cases eqSs lb lb' <;> cases eqSs lo lo' <;> rfl
          cases d with
          | true =>
            refine au ?_
            refine rn_ret Try.func22 (.inl ⟨_, rfl, rfl⟩) ⟨?_, hk2.tr hS⟩
            have hq : eqS (.mk op v e f lb lo) (.mk op' v' e' f' lb' lo') = false := by
              revert hdq
              cases eqS (.mk op v e f lb lo) (.mk op' v' e' f' lb' lo') <;> simp
            rw [hsp, hq]
            rfl
          | false =>
            refine au ?_
            refine pl_num (((i + 1 : Nat) : Int)) rfl rfl rfl rfl rfl (by simp only [ariP]; omega) ?_
            refine au ?_
            have hq : eqS (.mk op v e f lb lo) (.mk op' v' e' f' lb' lo') = true := by
              revert hdq
              cases eqS (.mk op v e f lb lo) (.mk op' v' e' f' lb' lo') <;> simp
            refine rn_sub ?_ (ih2 (l.length - (i + 1)) [(0, .slice (some ⟨b1, q1, none⟩) l.length ca), (1, .slice (some ⟨b2, q2, none⟩) l'.length cb), (5, .int .i64 ((i + 1 : Nat) : Int))] w5 (by omega) ⟨i + 1, by omega, rfl, rfl, by rw [htk2, hq], hk2.tr hS⟩)
            exact ⟨rfl, rfl, rfl, trivial⟩
        intro f5
        refine dr_with 13 147573952589676412927 (fun σ' w' => ∃ d : Bool, d = (((((!(op == op')) || !(v == v')) || !eqE e e') || !eqE f f') || !eqSs lb lb') ∧ Keep [] w2 w' ∧ Sub ([(0, .slice (some ⟨b1, q1, none⟩) l.length ca), (1, .slice (some ⟨b2, q2, none⟩) l'.length cb), (5, .int .i64 (i : Nat)), (83, .bool d)]) σ') ?_ ?_
        · rintro σ' w5 ⟨d, hd, hS, hsub⟩
          refine dr_sub hsub ?_
          cases d with
          | true =>
            refine dr_not 67 rfl (by decide +kernel) rfl rfl ?_
            refine dr_not 68 rfl (by decide +kernel) rfl rfl ?_
            refine dr_not 69 rfl (by decide +kernel) rfl rfl ?_
            refine dr_not 70 rfl (by decide +kernel) rfl rfl ?_
            refine dr_not 71 rfl (by decide +kernel) rfl rfl ?_
            refine dr_not 72 rfl (by decide +kernel) rfl rfl ?_
            refine dr_not 73 rfl (by decide +kernel) rfl rfl ?_
            refine dr_not 74 rfl (by decide +kernel) rfl rfl ?_
            refine dr_not 75 rfl (by decide +kernel) rfl rfl ?_
            refine dr_not 76 rfl (by decide +kernel) rfl rfl ?_
            refine dr_not 77 rfl (by decide +kernel) rfl rfl ?_
            refine dr_not 78 rfl (by decide +kernel) rfl rfl ?_
            refine tk 79 ?_
            exact f5 _ _ ⟨_, by rw [← hd]; rfl, hS, rfl, rfl, rfl, rfl, trivial⟩
          | false =>
            refine tk 67 ?_
            refine tk 68 ?_
            refine dr_any 69 _ rfl (by decide +kernel) rfl rfl (fun w => val_index i hT rfl rfl rfl rfl rfl hlt w) ?_
            refine tk 70 ?_
            refine dr_val 71 _ rfl (by decide +kernel) rfl rfl (fun w9 hS9 => val_load1 hT rfl rfl rfl (hA.keep hS9 hFA2.stays).co) hS ?_
            refine tk 72 ?_
            refine tk 73 ?_
            refine dr_any 74 _ rfl (by decide +kernel) rfl rfl (fun w => val_index i hT rfl rfl rfl rfl rfl hlt2 w) ?_
            refine tk 75 ?_
            refine dr_val 76 _ rfl (by decide +kernel) rfl rfl (fun w9 hS9 => val_load1 hT rfl rfl rfl (hB.keep hS9 hFB2.stays).co) hS ?_
            refine dr_op 77 rfl (by decide +kernel) rfl rfl (opTo_call rfl rfl rfl rfl (by decide +kernel) ((ih lo (by omega) (by omega) (hA.keep hS hFA2.stays).ho (hB.keep hS hFB2.stays).ho (hFA2.keep hS) (hFB2.keep hS)).mono ?_))
            rintro v6 w6 ⟨rfl, hk6⟩
            replace hS := hS.tr hk6
            refine ⟨fun _ => hS, ?_⟩
            refine tk 78 ?_
            refine tk 79 ?_
            exact f5 _ _ ⟨_, by rw [← hd]; rfl, hS, rfl, rfl, rfl, rfl, trivial⟩
        intro f4
        clear f5
        refine dr_with 27 9007199254740991 (fun σ' w' => ∃ d : Bool, d = ((((!(op == op')) || !(v == v')) || !eqE e e') || !eqE f f') ∧ Keep [] w2 w' ∧ Sub ([(0, .slice (some ⟨b1, q1, none⟩) l.length ca), (1, .slice (some ⟨b2, q2, none⟩) l'.length cb), (5, .int .i64 (i : Nat)), (69, .bool d)]) σ') ?_ ?_
        · rintro σ' w5 ⟨d, hd, hS, hsub⟩
          refine dr_sub hsub ?_
          cases d with
          | true =>
            refine dr_not 53 rfl (by decide +kernel) rfl rfl ?_
            refine dr_not 54 rfl (by decide +kernel) rfl rfl ?_
            refine dr_not 55 rfl (by decide +kernel) rfl rfl ?_
            refine dr_not 56 rfl (by decide +kernel) rfl rfl ?_
            refine dr_not 57 rfl (by decide +kernel) rfl rfl ?_
            refine dr_not 58 rfl (by decide +kernel) rfl rfl ?_
            refine dr_not 59 rfl (by decide +kernel) rfl rfl ?_
            refine dr_not 60 rfl (by decide +kernel) rfl rfl ?_
            refine dr_not 61 rfl (by decide +kernel) rfl rfl ?_
            refine dr_not 62 rfl (by decide +kernel) rfl rfl ?_
            refine dr_not 63 rfl (by decide +kernel) rfl rfl ?_
            refine dr_not 64 rfl (by decide +kernel) rfl rfl ?_
            refine tk 65 ?_
            refine tk 66 ?_
            exact f4 _ _ ⟨_, by rw [← hd]; rfl, hS, rfl, rfl, rfl, rfl, trivial⟩
          | false =>
            refine tk 53 ?_
            refine tk 54 ?_
            refine dr_any 55 _ rfl (by decide +kernel) rfl rfl (fun w => val_index i hT rfl rfl rfl rfl rfl hlt w) ?_
            refine tk 56 ?_
            refine dr_val 57 _ rfl (by decide +kernel) rfl rfl (fun w9 hS9 => val_load1 hT rfl rfl rfl (hA.keep hS9 hFA2.stays).cb) hS ?_
            refine tk 58 ?_
            refine tk 59 ?_
            refine dr_any 60 _ rfl (by decide +kernel) rfl rfl (fun w => val_index i hT rfl rfl rfl rfl rfl hlt2 w) ?_
            refine tk 61 ?_
            refine dr_val 62 _ rfl (by decide +kernel) rfl rfl (fun w9 hS9 => val_load1 hT rfl rfl rfl (hB.keep hS9 hFB2.stays).cb) hS ?_
            refine dr_op 63 rfl (by decide +kernel) rfl rfl (opTo_call rfl rfl rfl rfl (by decide +kernel) ((ih lb (by omega) (by omega) (hA.keep hS hFA2.stays).hb (hB.keep hS hFB2.stays).hb (hFA2.keep hS) (hFB2.keep hS)).mono ?_))
            rintro v6 w6 ⟨rfl, hk6⟩
            replace hS := hS.tr hk6
            refine ⟨fun _ => hS, ?_⟩
            refine tk 64 ?_
            refine tk 65 ?_
            refine tk 66 ?_
            exact f4 _ _ ⟨_, by rw [← hd]; rfl, hS, rfl, rfl, rfl, rfl, trivial⟩
        intro f3
        clear f4
        refine dr_with 41 549755813887 (fun σ' w' => ∃ d : Bool, d = (((!(op == op')) || !(v == v')) || !eqE e e') ∧ Keep [] w2 w' ∧ Sub ([(0, .slice (some ⟨b1, q1, none⟩) l.length ca), (1, .slice (some ⟨b2, q2, none⟩) l'.length cb), (5, .int .i64 (i : Nat)), (55, .bool d)]) σ') ?_ ?_
        · rintro σ' w5 ⟨d, hd, hS, hsub⟩
          refine dr_sub hsub ?_
          cases d with
          | true =>
            refine dr_not 39 rfl (by decide +kernel) rfl rfl ?_
            refine dr_not 40 rfl (by decide +kernel) rfl rfl ?_
            refine dr_not 41 rfl (by decide +kernel) rfl rfl ?_
            refine dr_not 42 rfl (by decide +kernel) rfl rfl ?_
            refine dr_not 43 rfl (by decide +kernel) rfl rfl ?_
            refine dr_not 44 rfl (by decide +kernel) rfl rfl ?_
            refine dr_not 45 rfl (by decide +kernel) rfl rfl ?_
            refine dr_not 46 rfl (by decide +kernel) rfl rfl ?_
            refine dr_not 47 rfl (by decide +kernel) rfl rfl ?_
            refine dr_not 48 rfl (by decide +kernel) rfl rfl ?_
            refine dr_not 49 rfl (by decide +kernel) rfl rfl ?_
            refine dr_not 50 rfl (by decide +kernel) rfl rfl ?_
            refine tk 51 ?_
            refine tk 52 ?_
            exact f3 _ _ ⟨_, by rw [← hd]; rfl, hS, rfl, rfl, rfl, rfl, trivial⟩
          | false =>
            refine tk 39 ?_
            refine tk 40 ?_
            refine dr_any 41 _ rfl (by decide +kernel) rfl rfl (fun w => val_index i hT rfl rfl rfl rfl rfl hlt w) ?_
            refine tk 42 ?_
            refine dr_val 43 (.agg cf.toArray) rfl (by decide +kernel) rfl rfl (fun w9 hS9 => val_load cf hT rfl rfl (by rw [hA.hf.length]; rfl) (hA.keep hS9 hFA2.stays).rf) hS ?_
            refine tk 44 ?_
            refine tk 45 ?_
            refine dr_any 46 _ rfl (by decide +kernel) rfl rfl (fun w => val_index i hT rfl rfl rfl rfl rfl hlt2 w) ?_
            refine tk 47 ?_
            refine dr_val 48 (.agg cf'.toArray) rfl (by decide +kernel) rfl rfl (fun w9 hS9 => val_load cf' hT rfl rfl (by rw [hB.hf.length]; rfl) (hB.keep hS9 hFB2.stays).rf) hS ?_
            refine dr_op 49 rfl (by decide +kernel) rfl rfl (opTo_call rfl rfl rfl rfl (by decide +kernel) ((sameExpr_ret _ f (Nat.le_refl _) (by omega) (hA.keep hS hFA2.stays).hf (hB.keep hS hFB2.stays).hf (hFA2.keep hS) (hFB2.keep hS)).mono ?_))
            rintro v6 w6 ⟨rfl, hk6⟩
            replace hS := hS.tr hk6
            refine ⟨fun _ => hS, ?_⟩
            refine tk 50 ?_
            refine tk 51 ?_
            refine tk 52 ?_
            exact f3 _ _ ⟨_, by rw [← hd]; rfl, hS, rfl, rfl, rfl, rfl, trivial⟩
        intro f2
        clear f3
        refine dr_with 55 33554431 (fun σ' w' => ∃ d : Bool, d = ((!(op == op')) || !(v == v')) ∧ Keep [] w2 w' ∧ Sub ([(0, .slice (some ⟨b1, q1, none⟩) l.length ca), (1, .slice (some ⟨b2, q2, none⟩) l'.length cb), (5, .int .i64 (i : Nat)), (41, .bool d)]) σ') ?_ ?_
        · rintro σ' w5 ⟨d, hd, hS, hsub⟩
          refine dr_sub hsub ?_
          cases d with
          | true =>
            refine dr_not 25 rfl (by decide +kernel) rfl rfl ?_
            refine dr_not 26 rfl (by decide +kernel) rfl rfl ?_
            refine dr_not 27 rfl (by decide +kernel) rfl rfl ?_
            refine dr_not 28 rfl (by decide +kernel) rfl rfl ?_
            refine dr_not 29 rfl (by decide +kernel) rfl rfl ?_
            refine dr_not 30 rfl (by decide +kernel) rfl rfl ?_
            refine dr_not 31 rfl (by decide +kernel) rfl rfl ?_
            refine dr_not 32 rfl (by decide +kernel) rfl rfl ?_
            refine dr_not 33 rfl (by decide +kernel) rfl rfl ?_
            refine dr_not 34 rfl (by decide +kernel) rfl rfl ?_
            refine dr_not 35 rfl (by decide +kernel) rfl rfl ?_
            refine dr_not 36 rfl (by decide +kernel) rfl rfl ?_
            refine tk 37 ?_
            refine tk 38 ?_
            exact f2 _ _ ⟨_, by rw [← hd]; rfl, hS, rfl, rfl, rfl, rfl, trivial⟩
          | false =>
            refine tk 25 ?_
            refine tk 26 ?_
            refine dr_any 27 _ rfl (by decide +kernel) rfl rfl (fun w => val_index i hT rfl rfl rfl rfl rfl hlt w) ?_
            refine tk 28 ?_
            refine dr_val 29 (.agg ce.toArray) rfl (by decide +kernel) rfl rfl (fun w9 hS9 => val_load ce hT rfl rfl (by rw [hA.he.length]; rfl) (hA.keep hS9 hFA2.stays).re) hS ?_
            refine tk 30 ?_
            refine tk 31 ?_
            refine dr_any 32 _ rfl (by decide +kernel) rfl rfl (fun w => val_index i hT rfl rfl rfl rfl rfl hlt2 w) ?_
            refine tk 33 ?_
            refine dr_val 34 (.agg ce'.toArray) rfl (by decide +kernel) rfl rfl (fun w9 hS9 => val_load ce' hT rfl rfl (by rw [hB.he.length]; rfl) (hB.keep hS9 hFB2.stays).re) hS ?_
            refine dr_op 35 rfl (by decide +kernel) rfl rfl (opTo_call rfl rfl rfl rfl (by decide +kernel) ((sameExpr_ret _ e (Nat.le_refl _) (by omega) (hA.keep hS hFA2.stays).he (hB.keep hS hFB2.stays).he (hFA2.keep hS) (hFB2.keep hS)).mono ?_))
            rintro v6 w6 ⟨rfl, hk6⟩
            replace hS := hS.tr hk6
            refine ⟨fun _ => hS, ?_⟩
            refine tk 36 ?_
            refine tk 37 ?_
            refine tk 38 ?_
            exact f2 _ _ ⟨_, by rw [← hd]; rfl, hS, rfl, rfl, rfl, rfl, trivial⟩
        intro f1
        clear f2
        refine tk 0 ?_
        refine tk 1 ?_
        refine dr_any 2 _ rfl (by decide +kernel) rfl rfl (fun w => val_index i hT rfl rfl rfl rfl rfl hlt w) ?_
        refine tk 3 ?_
        refine dr_val 4 _ rfl (by decide +kernel) rfl rfl (fun w9 hS9 => val_load1 hT rfl rfl rfl (hA.keep hS9 hFA2.stays).cop) hS ?_
        refine tk 5 ?_
        refine tk 6 ?_
        refine dr_any 7 _ rfl (by decide +kernel) rfl rfl (fun w => val_index i hT rfl rfl rfl rfl rfl hlt2 w) ?_
        refine tk 8 ?_
        refine dr_val 9 _ rfl (by decide +kernel) rfl rfl (fun w9 hS9 => val_load1 hT rfl rfl rfl (hB.keep hS9 hFB2.stays).cop) hS ?_
        by_cases hop : op = op'
        · refine dno 10 ?_
          refine tk 11 ?_
          refine tk 12 ?_
          refine tk 13 ?_
          refine dr_any 14 _ rfl (by decide +kernel) rfl rfl (fun w => val_index i hT rfl rfl rfl rfl rfl hlt w) ?_
          refine tk 15 ?_
          refine dr_val 16 _ rfl (by decide +kernel) rfl rfl (fun w9 hS9 => val_load1 hT rfl rfl rfl (hA.keep hS9 hFA2.stays).cv) hS ?_
          refine tk 17 ?_
          refine tk 18 ?_
          refine dr_any 19 _ rfl (by decide +kernel) rfl rfl (fun w => val_index i hT rfl rfl rfl rfl rfl hlt2 w) ?_
          refine tk 20 ?_
          refine dr_val 21 _ rfl (by decide +kernel) rfl rfl (fun w9 hS9 => val_load1 hT rfl rfl rfl (hB.keep hS9 hFB2.stays).cv) hS ?_
          refine dr_any 22 (.bool (!(v == v'))) rfl (by decide +kernel) rfl rfl (fun w => val_int .i64 _ _ _ rfl rfl rfl (by simp only [intOp]; rfl) w) ?_
          refine tk 23 ?_
          refine tk 24 ?_
          exact f1 _ _ ⟨_, by simp [hop], hS, rfl, rfl, rfl, rfl, trivial⟩
        · refine dye 10 ?_
          refine tk 11 ?_
          refine dr_not 12 rfl (by decide +kernel) rfl rfl ?_
          refine dr_not 13 rfl (by decide +kernel) rfl rfl ?_
          refine dr_not 14 rfl (by decide +kernel) rfl rfl ?_
          refine dr_not 15 rfl (by decide +kernel) rfl rfl ?_
          refine dr_not 16 rfl (by decide +kernel) rfl rfl ?_
          refine dr_not 17 rfl (by decide +kernel) rfl rfl ?_
          refine dr_not 18 rfl (by decide +kernel) rfl rfl ?_
          refine dr_not 19 rfl (by decide +kernel) rfl rfl ?_
          refine dr_not 20 rfl (by decide +kernel) rfl rfl ?_
          refine dr_not 21 rfl (by decide +kernel) rfl rfl ?_
          refine dr_not 22 rfl (by decide +kernel) rfl rfl ?_
          refine tk 23 ?_
          refine tk 24 ?_
          exact f1 _ _ ⟨_, by simp [hop], hS, rfl, rfl, rfl, rfl, trivial⟩
      · refine nay ?_
        refine au ?_
        rw [List.take_of_length_le (by omega), List.take_of_length_le (by omega)] at htk
        exact rn_ret Try.func22 (.inl ⟨_, rfl, rfl⟩) ⟨by rw [htk], hk2⟩
    · refine ye ?_
      refine au ?_
      exact rn_ret Try.func22 (.inl ⟨_, rfl, rfl⟩) ⟨by rw [eqSs_ne hn], Keep.refl _ _⟩
end E
end Go.Proofs.Ytcgigfnbjmlhhad

/- Contract of the document's Same. -/
namespace Go.Proofs.Ytcgigfnbjmlhhad
set_option maxRecDepth 20000
set_option maxHeartbeats 4000000
namespace E
open Go.Proofs

theorem refSame_ret {F F' : Nat → Prop} {w : World} {x y : Value} {vs vs' : List VarT} {body body' : List ST} (h : ProgV F w x vs body) (h' : ProgV F' w y vs' body') (hF : In F w) (hF' : In F' w) (h30 : vs.length ≤ 100000) (hsz : szSs body ≤ 100000) :
    Ret Try.prog 11 [x, y] w fun r w' => r = .bool (eqP vs body vs' body') ∧ Keep [] w w' := by
  obtain ⟨vv, bv, rfl, hv, hb⟩ := h
  obtain ⟨vv', bv', rfl, hv', hb'⟩ := h'
  obtain ⟨av, capv, rfl⟩ := hv.form
  obtain ⟨ab, capb, rfl⟩ := hb.form
  obtain ⟨av', capv', rfl⟩ := hv'.form
  obtain ⟨ab', capb', rfl⟩ := hb'.form
  refine ret_of 39 Try.func11 rfl rfl (by simp) ?_
  refine au ?_
  refine pl_op rfl rfl (opTo_boxN [.slice av vs.length capv, .slice ab body.length capb] rfl rfl rfl ?_)
  intro w1 p1 hp1 hs1 hk1 hB1'
  refine pl_op rfl rfl (opTo_boxN [.slice av' vs'.length capv', .slice ab' body'.length capb'] rfl rfl rfl ?_)
  intro w2 p2 hp2 hs2 hk2 hB2
  have hB1 := hk2.blk hB1' (by simp)
  have hk := hk1.tr hk2
  clear hB1' hk1 hk2
  unfold eqP
  by_cases hn : vs.length = vs'.length
  · refine aub ?_
    refine pl_op rfl rfl (opTo_call rfl rfl rfl rfl (by decide +kernel) ((sameList_ret _ body (Nat.lt_succ_self _) hsz (hb.keep hk hF.stays) (hb'.keep hk hF'.stays) (hF.keep hk) (hF'.keep hk)).mono ?_))
    rintro v3 w3 ⟨rfl, hk3⟩
    have hk3w := hk.tr hk3
    cases hq : eqSs body body' with
    | false =>
      refine au ?_
      exact rn_ret Try.func11 (.inl ⟨_, rfl, rfl⟩) ⟨by simp, hk3w⟩
    | true =>
      rw [Bool.and_true]
      refine au ?_
      refine rn_ind (fun m σ w' => ∃ i : Nat, i ≤ vs.length ∧ m = vs.length - i ∧ σ = [(2, .pointer (some ⟨p1, 0, none⟩)), (3, .pointer (some ⟨p2, 0, none⟩)), (5, .int .i64 (i : Nat))] ∧ eqVs (vs.take i) (vs'.take i) = true ∧ Keep [] w2 w') vs.length _ ?_ ⟨0, by omega, by omega, rfl, by simp [eqVs], hk3⟩ ?_
      · exact ⟨rfl, rfl, rfl, trivial⟩
      rintro m σ w4 ih ⟨i, hi, rfl, rfl, heq, hk4⟩
      have hk4w := hk.tr hk4
      refine au ?_
      refine pl_val _ rfl rfl (val_load1 hT rfl rfl rfl ((hk4.blk hB1 (by simp)).cell rfl)) ?_
      refine au ?_
      by_cases hlt : i < vs.length
      · refine ye ?_
        refine au ?_
        have hx : vs[i]? = some vs[i] := List.getElem?_eq_getElem hlt
        have hy : vs'[i]? = some (vs'[i]'(by omega)) := List.getElem?_eq_getElem (by omega)
        obtain ⟨b1, q1, _, hvv, hF1, hr1⟩ := hv.at hx
        cases hvv
        obtain ⟨b2, q2, _, hvv, hF2, hr2⟩ := hv'.at hy
        cases hvv
        have hsp := eqVs_split hn hx hy
        have htk := eqVs_take hn hx hy
        rw [heq, Bool.true_and] at hsp htk
        generalize vs[i] = u at *
        generalize vs'[i]'(by omega) = z at *
        obtain ⟨us, uz⟩ := u
        obtain ⟨zs, zz⟩ := z
        refine rn_draw (fun w' => Keep [] w4 w') [] hMix ?_
        have hS : Keep [] w4 w4.drew := (Keep.refl _ _).drew
        generalize w4.drew = w5 at *
        refine tk 0 ?_
        refine dr_val 1 _ rfl (by decide +kernel) rfl rfl (fun w9 hS9 => val_load1 hT rfl rfl rfl (((hk4.tr hS9).blk hB1 (by simp)).cell rfl)) hS ?_
        refine tk 2 ?_
        refine dr_any 3 _ rfl (by decide +kernel) rfl rfl (fun w => val_index i hT rfl rfl rfl rfl rfl hlt w) ?_
        refine dr_val 4 (.agg #[.string us, .int .i64 uz]) rfl (by decide +kernel) rfl rfl (fun w9 hS9 => val_load (vcell (us, uz)) hT rfl rfl rfl (range_keep hr1 (hk4w.tr hS9) (hF _ hF1) (by simp))) hS ?_
        refine tk 5 ?_
        refine dr_val 6 _ rfl (by decide +kernel) rfl rfl (fun w9 hS9 => val_load1 hT rfl rfl rfl (((hk4.tr hS9).blk hB2 (by simp)).cell rfl)) hS ?_
        refine tk 7 ?_
        refine dr_any 8 _ rfl (by decide +kernel) rfl rfl (fun w => val_index i hT rfl rfl rfl rfl rfl (by omega) w) ?_
        refine dr_val 9 (.agg #[.string zs, .int .i64 zz]) rfl (by decide +kernel) rfl rfl (fun w9 hS9 => val_load (vcell (zs, zz)) hT rfl rfl rfl (range_keep hr2 (hk4w.tr hS9) (hF' _ hF2) (by simp))) hS ?_
        refine dr_any 10 (.bool (!(eqV (us, uz) (zs, zz)))) rfl (by decide +kernel) rfl rfl (fun w => val_nePair us zs uz zz _ (by decide +kernel) rfl rfl rfl rfl w) ?_
        refine dr_done (by decide +kernel) ?_
        cases hqv : eqV (us, uz) (zs, zz) with
        | false =>
          refine au ?_
          exact rn_ret Try.func11 (.inl ⟨_, rfl, rfl⟩) ⟨by rw [hsp, hqv]; rfl, hk4w.tr hS⟩
        | true =>
          refine au ?_
          refine pl_num (((i + 1 : Nat) : Int)) rfl rfl rfl rfl rfl (by simp only [ariP]; omega) ?_
          refine au ?_
          refine rn_sub ?_ (ih (vs.length - (i + 1)) [(2, .pointer (some ⟨p1, 0, none⟩)), (3, .pointer (some ⟨p2, 0, none⟩)), (5, .int .i64 ((i + 1 : Nat) : Int))] w5 (by omega) ⟨i + 1, by omega, rfl, rfl, by rw [htk, hqv], hk4.tr hS⟩)
          exact ⟨rfl, rfl, rfl, trivial⟩
      · refine nay ?_
        refine au ?_
        rw [List.take_of_length_le (by omega), List.take_of_length_le (by omega)] at heq
        exact rn_ret Try.func11 (.inl ⟨_, rfl, rfl⟩) ⟨by rw [heq], hk4w⟩
  · refine aub ?_
    refine rn_ret Try.func11 (.inl ⟨_, rfl, rfl⟩) ⟨?_, hk⟩
    have : eqVs vs vs' = false := by
      cases he : eqVs vs vs' with
      | false => rfl
      | true => exact absurd (eqVs_len he) hn
    rw [this]
    rfl
end E
end Go.Proofs.Ytcgigfnbjmlhhad

/- Contracts of the document's ProgramFault and Same. -/
namespace Go.Proofs.Ytcgigfnbjmlhhad
set_option maxRecDepth 20000
set_option maxHeartbeats 4000000
namespace E
open Go.Proofs

theorem built_looking (a b : Option Addr) (m c m' c' : Nat) : Try.prog.built tLk [(0, .agg #[.slice a m c, .slice b m' c'])] = some [Value.slice a m c, .slice b m' c', .int .i64 0, .int .i64 0].toArray := by kernel_rfl

theorem refFault_ret {F : Nat → Prop} {w : World} {x : Value} {vs : List VarT} {body : List ST} (h : ProgV F w x vs body) (hF : In F w) (hnm : ∀ y ∈ vs, y.1.size ≤ 100000) (hsz : szSs body ≤ 100000) :
    Ret Try.prog 10 [x] w fun r w' => r = .int .i64 (progFault vs body) ∧ Keep [] w w' := by
  obtain ⟨vv, bv, rfl, hv, hb⟩ := h
  obtain ⟨av, capv, rfl⟩ := hv.form
  obtain ⟨ab, capb, rfl⟩ := hb.form
  refine ret_of 72 Try.func10 rfl rfl (by simp) ?_
  refine au ?_
  refine pl_op rfl rfl (opTo_boxN [.slice av vs.length capv, .slice ab body.length capb] rfl rfl rfl ?_)
  intro w1 p hp hs1 hk1 hB1
  refine au ?_
  refine pl_val _ rfl rfl (val_load1 hT rfl rfl rfl (hB1.cell rfl)) ?_
  refine au ?_
  unfold progFault
  by_cases h8 : vs.length > 8
  · rw [if_pos h8]
    refine ye ?_
    refine au ?_
    exact rn_ret Try.func10 (.inl ⟨_, rfl, rfl⟩) ⟨rfl, hk1⟩
  rw [if_neg h8]
  refine nay ?_
  refine au ?_
  refine rn_ind (fun m σ w' => ∃ i : Nat, i ≤ vs.length ∧ m = vs.length - i ∧ σ = [(1, .pointer (some ⟨p, 0, none⟩)), (3, .int .i64 (sumV (vs.take i))), (4, .int .i64 (i : Nat))] ∧
    chkV [] 0 vs = chkV ((vs.take i).map (·.1)) (sumV (vs.take i)) (vs.drop i) ∧ 0 ≤ sumV (vs.take i) ∧ sumV (vs.take i) ≤ 48 ∧ Blk w' p [.slice av vs.length capv, .slice ab body.length capb] 25 ∧ Keep [] w w') vs.length _ ?_ ⟨0, by omega, by omega, rfl, by simp [sumV], by simp [sumV], by simp [sumV], hB1, hk1⟩ ?_
  · exact ⟨rfl, rfl, rfl, trivial⟩
  rintro m σ w2 ih ⟨i, hi, rfl, rfl, hch, hs0, hs48, hB2, hk2⟩
  refine au ?_
  refine pl_val _ rfl rfl (val_load1 hT rfl rfl rfl (hB2.cell rfl)) ?_
  refine au ?_
  by_cases hlt : i < vs.length
  · refine ye ?_
    refine au ?_
    refine pl_val _ rfl rfl (val_load1 hT rfl rfl rfl (hB2.cell rfl)) ?_
    refine au ?_
    have hget : vs[i]? = some vs[i] := List.getElem?_eq_getElem hlt
    have hnmi := hnm vs[i] (List.getElem_mem _)
    obtain ⟨nm, sz, hnz⟩ : ∃ nm sz, vs[i] = (nm, sz) := ⟨_, _, rfl⟩
    rw [hnz] at hget hnmi
    replace hnmi : nm.size ≤ 100000 := hnmi
    rw [chkV_at hget] at hch
    have hsu : sumV (vs.take (i + 1)) = sumV (vs.take i) + sz := sumV_take_succ hget
    replace hch : chkV [] 0 vs = if nameOk nm = false then 8 else if (vs.take i).any (sameName (nm, sz)) = true then 9 else if sz < 1 ∨ sz > 48 ∨ sumV (vs.take i) + sz > 48 then 1 else chkV ((vs.take (i + 1)).map (·.1)) (sumV (vs.take (i + 1))) (vs.drop (i + 1)) := hch
    obtain ⟨bb, q, cap', hvv, hFb, hra⟩ := (hv.keep hk2 hF.stays).at hget
    cases hvv
    refine pl_val _ rfl rfl (val_index i hT rfl rfl rfl rfl rfl hlt w2) ?_
    refine pl_val _ rfl rfl (val_load (vcell (nm, sz)) hT rfl rfl rfl hra) ?_
    refine pl_op rfl rfl (opTo_allocN _ rfl zero_var ?_)
    intro w3 c hc3 hs3 hk3 hC3
    refine pl_op rfl rfl (opTo_storeN _ rfl rfl rfl rfl (by kernel_rfl) hC3 (by simp [vcell, varZ]) (vcell_one _) ?_)
    intro w4 hs4 hk4 hC4
    rw [splice_whole (by rfl)] at hC4
    have hk24 : Keep [] w2 w4 := hk3.trB hk4 (by omega)
    have hB4 := hk24.blk hB2 (by simp)
    have hk4w := hk2.tr hk24
    unfold vcell at hC4
    clear hk3 hk4 hC3
    refine au ?_
    refine pl_val _ rfl rfl (val_load1 hT rfl rfl rfl (hC4.cell rfl)) ?_
    refine pl_op rfl rfl (opTo_call rfl rfl rfl rfl (by decide +kernel) ((nameText_ret nm (by omega) w4).mono ?_))
    rintro v5 w5 ⟨rfl, rfl⟩
    cases hno : nameOk nm with
    | false =>
      refine au ?_
      refine rn_ret Try.func10 (.inl ⟨_, rfl, rfl⟩) ⟨?_, hk4w⟩
      have hcv : chkV [] 0 vs = 8 := by rw [hch, if_pos hno]
      rw [hcv]
      rfl
    | true =>
      rw [hno, if_neg (by simp)] at hch
      refine au ?_
      refine rn_ind (fun m σ w' => ∃ k : Nat, k ≤ i ∧ m = i - k ∧ σ = [(1, .pointer (some ⟨p, 0, none⟩)), (3, .int .i64 (sumV (vs.take i))), (4, .int .i64 (i : Nat)), (5, .pointer (some ⟨c, 0, none⟩)), (6, .int .i64 (k : Nat))] ∧ (vs.take k).any (sameName (nm, sz)) = false ∧ Keep [] w5 w') i _ ?_ ⟨0, by omega, by omega, rfl, by simp, Keep.refl _ _⟩ ?_
      · exact ⟨rfl, rfl, rfl, rfl, rfl, trivial⟩
      rintro m σ w6 ih3 ⟨k, hk, rfl, rfl, hany, hk6⟩
      refine au ?_
      by_cases hki : k < i
      · refine ye ?_
        refine au ?_
        have hgk : vs[k]? = some (vs[k]'(by omega)) := List.getElem?_eq_getElem (by omega)
        have hmem : vs[k]'(by omega) ∈ vs.take i := by
          rw [List.mem_iff_getElem?]
          exact ⟨k, by rw [List.getElem?_take, if_pos hki]; exact hgk⟩
        obtain ⟨b2, q2, _, hv2, hF2, hr2⟩ := hv.at hgk
        cases hv2
        have hsuk : (vs.take (k + 1)).any (sameName (nm, sz)) = sameName (nm, sz) (vs[k]'(by omega)) := by
          rw [List.take_succ_eq_append_getElem (by omega), List.any_append, hany]
          simp
        generalize vs[k]'(by omega) = y at *
        have hkw6 := hk4w.tr hk6
        refine rn_draw (fun w' => Keep [] w6 w') [] hMix ?_
        have hS : Keep [] w6 w6.drew := (Keep.refl _ _).drew
        generalize w6.drew = w7 at *
        refine tk 0 ?_
        refine dr_val 1 _ rfl (by decide +kernel) rfl rfl (fun w9 hS9 => val_load1 hT rfl rfl rfl (((hk6.tr hS9).blk hB4 (by simp)).cell rfl)) hS ?_
        refine tk 2 ?_
        refine dr_any 3 _ rfl (by decide +kernel) rfl rfl (fun w => val_index k hT rfl rfl rfl rfl rfl (by omega) w) ?_
        refine tk 4 ?_
        refine dr_val 5 (.string y.1) rfl (by decide +kernel) rfl rfl (fun w9 hS9 => val_load1 hT rfl rfl rfl (range_keep hr2 (hkw6.tr hS9) (hF _ hF2) (by simp) 0 (.string y.1) rfl)) hS ?_
        refine tk 6 ?_
        refine dr_val 7 _ rfl (by decide +kernel) rfl rfl (fun w9 hS9 => val_load1 hT rfl rfl rfl (((hk6.tr hS9).blk hC4 (by simp)).cell rfl)) hS ?_
        refine dr_any 8 (.bool (sameName (nm, sz) y)) rfl (by decide +kernel) rfl rfl (fun w => val_eqStr y.1 nm _ rfl rfl rfl rfl w) ?_
        refine dr_done (by decide +kernel) ?_
        cases hsn : sameName (nm, sz) y with
        | true =>
          refine au ?_
          refine rn_ret Try.func10 (.inl ⟨_, rfl, rfl⟩) ⟨?_, hkw6.tr hS⟩
          have hcv : chkV [] 0 vs = 9 := by rw [hch, if_pos (List.any_eq_true.2 ⟨_, hmem, hsn⟩)]
          rw [hcv]
          rfl
        | false =>
          refine au ?_
          refine pl_num (((k + 1 : Nat) : Int)) rfl rfl rfl rfl rfl (by simp only [ariP]; omega) ?_
          refine au ?_
          refine rn_sub ?_ (ih3 (i - (k + 1)) [(1, .pointer (some ⟨p, 0, none⟩)), (3, .int .i64 (sumV (vs.take i))), (4, .int .i64 (i : Nat)), (5, .pointer (some ⟨c, 0, none⟩)), (6, .int .i64 ((k + 1 : Nat) : Int))] w7 (by omega) ⟨k + 1, by omega, rfl, rfl, by rw [hsuk, hsn], hk6.tr hS⟩)
          exact ⟨rfl, rfl, rfl, rfl, rfl, trivial⟩
      · have hki' : k = i := by omega
        subst hki'
        rw [if_neg (by rw [hany]; simp)] at hch
        have hC6 := hk6.blk hC4 (by simp)
        have hB6 := hk6.blk hB4 (by simp)
        have hkw6 := hk4w.tr hk6
        refine nay ?_
        refine au ?_
        by_cases h1 : sz < 1
        · refine aub ?_
          refine rn_ret Try.func10 (.inl ⟨_, rfl, rfl⟩) ⟨?_, hkw6⟩
          have hcv : chkV [] 0 vs = 1 := by rw [hch, if_pos (.inl h1)]
          rw [hcv]
          rfl
        · by_cases h2 : sz > 48
          · refine aub ?_
            refine rn_ret Try.func10 (.inl ⟨_, rfl, rfl⟩) ⟨?_, hkw6⟩
            have hcv : chkV [] 0 vs = 1 := by rw [hch, if_pos (.inr (.inl h2))]
            rw [hcv]
            rfl
          · refine aub ?_
            refine pl_num (sumV (vs.take (k + 1))) rfl rfl rfl rfl rfl (by simp only [ariP]; omega) ?_
            by_cases h3 : sumV (vs.take k) + sz > 48
            · refine aub ?_
              refine rn_ret Try.func10 (.inl ⟨_, rfl, rfl⟩) ⟨?_, hkw6⟩
              have hcv : chkV [] 0 vs = 1 := by rw [hch, if_pos (.inr (.inr h3))]
              rw [hcv]
              rfl
            · rw [if_neg (by omega)] at hch
              refine aub ?_
              refine pl_num (sumV (vs.take (k + 1))) rfl rfl rfl rfl rfl (by simp only [ariP]; omega) ?_
              refine au ?_
              refine pl_num (((k + 1 : Nat) : Int)) rfl rfl rfl rfl rfl (by simp only [ariP]; omega) ?_
              refine au ?_
              refine rn_sub ?_ (ih (vs.length - (k + 1)) [(1, .pointer (some ⟨p, 0, none⟩)), (3, .int .i64 (sumV (vs.take (k + 1)))), (4, .int .i64 ((k + 1 : Nat) : Int))] w6 (by omega) ⟨k + 1, by omega, rfl, rfl, hch, by omega, by omega, hB6, hkw6⟩)
              exact ⟨rfl, rfl, rfl, trivial⟩
  · refine nay ?_
    refine au ?_
    have hz : chkV [] 0 vs = 0 := by rw [hch, List.drop_eq_nil_of_le (by omega)]; rfl
    rw [hz]
    simp only [ne_eq, not_true_eq_false, if_false]
    refine pl_val _ rfl rfl (val_load [.slice av vs.length capv, .slice ab body.length capb] hT rfl rfl rfl (hB2.range (by rfl))) ?_
    refine pl_val _ rfl rfl (val_build _ rfl rfl (built_looking _ _ _ _ _ _) w2) ?_
    refine pl_op rfl rfl (opTo_boxN [.slice av vs.length capv, .slice ab body.length capb, .int .i64 0, .int .i64 0] rfl rfl rfl ?_)
    intro w3 j hj hs3 hk3 hJ3
    have hJ3' : Blk w3 j (lkC (.slice av vs.length capv) (.slice ab body.length capb) 0 0) tLk := hJ3
    have hB3 := hk3.blk hB2 (by simp)
    have hk3w := hk2.tr hk3
    refine au ?_
    refine pl_val _ rfl rfl (val_load1 hT rfl rfl rfl (hB3.cell rfl)) ?_
    refine pl_op rfl rfl (opTo_call rfl rfl rfl rfl (by decide +kernel) ((lookList_ret _ body (Nat.lt_succ_self _) hsz 0 0 0 (hb.keep hk3w hF.stays) (hF.keep hk3w) (fun h => by have := hF j h; have := hk2.size; omega) hJ3' (.inl (by omega)) (by omega) (fun _ => by omega)).mono ?_))
    rintro v4 w4 ⟨rfl, ⟨n4, c4, hJ4, hT4⟩, hk4⟩
    have hJ4' := hJ4
    unfold lkC at hJ4'
    refine au ?_
    refine pl_val _ rfl rfl (val_load1 hT rfl rfl rfl (hJ4'.cell rfl)) ?_
    refine au ?_
    refine rn_ret Try.func10 (.inl ⟨_, rfl, rfl⟩) ⟨?_, hk3w.trB hk4 (by have := hk2.size; omega)⟩
    have ht := hT4.2.1 rfl
    cases hx : chkSs vs.length body 0 0 with
    | ok q => rw [(ht.1 q hx).2]; rfl
    | error e => rw [ht.2 e hx]; rfl

end E
end Go.Proofs.Ytcgigfnbjmlhhad

/- The walk of CompileMakes. -/
namespace Go.Proofs.Ytcgigfnbjmlhhad
set_option maxRecDepth 20000
set_option maxHeartbeats 4000000
namespace E
open Go.Proofs

theorem zero_cp : ((Try.prog.info? 25).bind (·.zero)).map (·.cells) = some [Value.slice none 0 0, .slice none 0 0].toArray := by kernel_rfl
theorem size_cp : sizeOk Try.prog 25 2 = true := by kernel_rfl
theorem one_cp (a b : Option Addr) (n c m d : Nat) : ∀ u ∈ [Value.slice a n c, .slice b m d], u.oneCell' = true := by
  intro u hu
  simp only [List.mem_cons, List.not_mem_nil, or_false] at hu
  rcases hu with rfl | rfl <;> rfl

theorem compileMakes_ret (hM : MkC) {w : World} {x : Value} {vs : List VarT} {body : List ST} (h : ProgV (fun b => b < w.heap.size) w x vs body) :
    Ret Try.prog 3 [x] w fun r w' => r = .bool true ∧ Keep [] w w' := by
  have hF : In (fun b => b < w.heap.size) w := fun c hc => hc
  have hh := h
  obtain ⟨vv, bv, rfl, hv, hb⟩ := h
  obtain ⟨av, capv, rfl⟩ := hv.form
  obtain ⟨ab, capb, rfl⟩ := hb.form
  refine ret_of 99 Try.func3 rfl rfl (by simp) ?_
  refine au ?_
  refine pl_op rfl rfl (opTo_boxN [.slice av vs.length capv, .slice ab body.length capb] rfl rfl rfl ?_)
  intro w1 p hp0 hs1 hk1 hp1
  refine au ?_
  refine pl_op rfl rfl (opTo_call (fst := []) (cap := []) rfl rfl rfl rfl (by decide +kernel) ((compileBegun_ret hM w1).mono ?_))
  rintro r w2 ⟨rfl, hk2⟩
  have hk02 := hk1.tr hk2
  have hp2 := hk2.blk hp1 (by simp)
  refine au ?_
  refine pl_val _ rfl rfl (val_load [.slice av vs.length capv, .slice ab body.length capb] hT rfl rfl rfl (hp2.range (by rfl))) ?_
  refine pl_op rfl rfl (opTo_call (fst := []) (cap := []) rfl rfl rfl rfl (by decide +kernel) ((great_ret (hh.keep hk02 hF.stays) (hF.keep hk02)).mono ?_))
  rintro r w3 ⟨⟨g, rfl, hg⟩, hk3⟩
  have hk03 := hk02.tr hk3
  have hp3 := hk3.blk hp2 (by simp)
  cases g with
  | true =>
    refine au ?_
    exact rn_ret Try.func3 (.inl ⟨_, rfl, rfl⟩) ⟨rfl, hk03⟩
  | false =>
    obtain ⟨h30, hnm, hsz⟩ := hg rfl
    have hnm' : ∀ y ∈ vs, y.1.size ≤ 100000 := fun y hy => by have := hnm y hy; omega
    refine au ?_
    refine pl_val _ rfl rfl (val_load [.slice av vs.length capv, .slice ab body.length capb] hT rfl rfl rfl (hp3.range (by rfl))) ?_
    refine pl_op rfl rfl (opTo_call (fst := []) (cap := []) rfl rfl rfl rfl (by decide +kernel) ((Own_ret (hh.keep hk03 hF.stays) (hF.keep hk03) h30 (by omega)).mono ?_))
    rintro r w4 ⟨⟨ov, ob, g, ts, B1, rfl, hov, hob, her, _, _, _, _, hB1⟩, hk4⟩
    have hk04 := hk03.tr hk4
    have hp4 := hk4.blk hp3 (by simp)
    have hob' := hob.plain
    rw [her] at hob'
    have hq : ProgV (fun b => b < w4.heap.size) w4 (.agg #[ov, ob]) vs body := ⟨ov, ob, rfl, hov.mono fun b hb => by omega, hob'⟩
    obtain ⟨av', capv', rfl⟩ := hov.form
    obtain ⟨ab', capb', rfl⟩ := hob'.form
    have hin4 : In (fun b => b < w4.heap.size) w4 := fun c hc => hc
    refine pl_op rfl rfl (opTo_allocN _ rfl zero_cp ?_)
    intro w5 b3 hb30 hs5 hk5 hq5
    refine pl_op rfl rfl (opTo_storeN [.slice av' vs.length capv', .slice ab' body.length capb'] rfl rfl rfl rfl size_cp hq5 (by simp) (one_cp _ _ _ _ _ _) ?_)
    intro w6 hs6 hk6 hq6
    rw [splice_whole (by rfl)] at hq6
    have hk46 : Keep [] w4 w6 := hk5.trB hk6 (by omega)
    have hk06 := hk04.tr hk46
    have hp6 := hk46.blk hp4 (by simp)
    refine au ?_
    refine pl_val _ rfl rfl (val_load [.slice av' vs.length capv', .slice ab' body.length capb'] hT rfl rfl rfl (hq6.range (by rfl))) ?_
    refine pl_op rfl rfl (opTo_call (fst := []) (cap := []) rfl rfl rfl rfl (by decide +kernel) ((hM.make (hq.keep hk46 hin4.stays) (hin4.keep hk46) (by omega) (by omega)).mono ?_))
    rintro r w7 ⟨⟨lv, rfl, hI⟩, hk7⟩
    have hk67 := hk7
    have hk07 := hk06.tr hk7
    have hp7 := hk7.blk hp6 (by simp)
    have hq7 := hk7.blk hq6 (by simp)
    obtain ⟨la, lc, rfl⟩ := hI.form
    refine au ?_
    refine pl_val _ rfl rfl (val_load [.slice av vs.length capv, .slice ab body.length capb] hT rfl rfl rfl (hp7.range (by rfl))) ?_
    refine pl_op rfl rfl (opTo_call (fst := []) (cap := []) rfl rfl rfl rfl (by decide +kernel) ((refFault_ret (hh.keep hk07 hF.stays) (hF.keep hk07) hnm' (by omega)).mono ?_))
    rintro r w8 ⟨rfl, hk8⟩
    have hk08 := hk07.tr hk8
    have hp8 := hk8.blk hp7 (by simp)
    have hq8 := hk8.blk hq7 (by simp)
    have hI8 := hI.keep hk8 fun c hc => ⟨hc.2, by simp⟩
    have hk48 := (hk46.tr hk7).tr hk8
    obtain ⟨c, hc⟩ : ∃ c, c = progFault vs body := ⟨_, rfl⟩
    rw [← hc]
    refine au ?_
    refine nay ?_
    refine au ?_
    refine pl_val _ rfl rfl (val_load [.slice av' vs.length capv', .slice ab' body.length capb'] hT rfl rfl rfl (hq8.range (by rfl))) ?_
    refine pl_val _ rfl rfl (val_load [.slice av vs.length capv, .slice ab body.length capb] hT rfl rfl rfl (hp8.range (by rfl))) ?_
    refine pl_op rfl rfl (opTo_call (fst := []) (cap := []) rfl rfl rfl rfl (by decide +kernel) ((refSame_ret (hq.keep hk48 hin4.stays) (hh.keep hk08 hF.stays) (hin4.keep hk48) (hF.keep hk08) (by omega) (by omega)).mono ?_))
    rintro r w9 ⟨rfl, hk9⟩
    rw [eqP_refl]
    have hk09 := hk08.tr hk9
    have hp9 := hk9.blk hp8 (by simp)
    have hI9 := hI8.keep hk9 fun c hc => ⟨by have := hk8.size; omega, by simp⟩
    refine au ?_
    by_cases hc0 : c = 0
    · refine nay ?_
      obtain ⟨hfit, hbig, hgd, _, _⟩ := prog_fit (hc.symm.trans hc0)
      have hmk : makeOf vs body = insP vs body := by
        unfold makeOf
        rw [if_pos (hc.symm.trans hc0)]
      rw [hmk] at hI9 ⊢
      obtain ⟨W, hW⟩ : ∃ W, W = insP vs body := ⟨_, rfl⟩
      have hWl : W.length ≤ 1801 := by
        have := insSs_len vs body 0
        rw [hW]
        simp only [insP, List.length_append, List.length_cons, List.length_nil]
        omega
      refine au ?_
      refine pl_val _ rfl rfl (val_load [.slice av vs.length capv, .slice ab body.length capb] hT rfl rfl rfl (hp9.range (by rfl))) ?_
      refine pl_op rfl rfl (opTo_call (fst := []) (cap := []) rfl rfl rfl rfl (by decide +kernel) ((codeOf_ret (hh.keep hk09 hF.stays) (hF.keep hk09) hfit hgd (by omega)).mono ?_))
      rintro r w10 ⟨hrow, hk10⟩
      have hk010 := hk09.tr hk10
      have hI10 := hI9.keep hk10 fun c hc => ⟨by have := hk8.size; have := hk9.size; omega, by simp⟩
      have hJ10 := hrow.ins
      rw [← hW] at hI10 hJ10 ⊢
      obtain ⟨ma, mc, rfl⟩ := hJ10.form
      refine au ?_
      refine nay ?_
      refine au ?_
      refine rn_ind (fun m σ w' => ∃ i : Nat, i ≤ W.length ∧ m = W.length - i ∧ σ = [(4, .slice la W.length lc), (7, .slice ma W.length mc), (8, .int .i64 (i : Nat))] ∧ Keep [] w10 w') W.length _ ?_ ⟨0, by omega, by omega, rfl, Keep.refl _ _⟩ ?_
      · exact ⟨rfl, rfl, rfl, trivial⟩
      rintro m σ w11 ih ⟨i, hi, rfl, rfl, hk11⟩
      have hI11 := hI10.keep hk11 fun c hc => ⟨by have := hk8.size; have := hk9.size; have := hk10.size; omega, by simp⟩
      have hJ11 := hJ10.keep hk11 fun c hc => ⟨hc.2, by simp⟩
      refine au ?_
      by_cases hlt : i < W.length
      · refine ye ?_
        have hxi : W[i]? = some W[i] := List.getElem?_eq_getElem hlt
        obtain ⟨x, hx⟩ : ∃ x, x = W[i] := ⟨_, rfl⟩
        rw [← hx] at hxi
        obtain ⟨b1, q1, c1, hv1, _, hr1⟩ := hI11.at hxi
        cases hv1
        obtain ⟨b2, q2, c2, hv2, _, hr2⟩ := hJ11.at hxi
        cases hv2
        refine au ?_
        refine rn_draw (fun w' => w' = w11.drew) [] hMix ?_
        have hS : w11.drew = w11.drew := rfl
        have hr1 : w11.drew.rangeAt b1 (q1 + i * 4) (iC x) := hr1
        have hr2 : w11.drew.rangeAt b2 (q2 + i * 4) (iC x) := hr2
        refine tk 0 ?_
        refine tk 1 ?_
        refine dr_any 2 _ rfl (by decide +kernel) rfl rfl (fun w => val_index i hT rfl rfl rfl rfl rfl hlt w) ?_
        refine tk 3 ?_
        refine dr_val 4 (.int .i64 x.1) rfl (by decide +kernel) rfl rfl (fun w9 hS9 => val_load1 hT rfl rfl rfl (by rw [hS9]; exact hr1 0 _ rfl)) hS ?_
        refine tk 5 ?_
        refine tk 6 ?_
        refine dr_any 7 _ rfl (by decide +kernel) rfl rfl (fun w => val_index i hT rfl rfl rfl rfl rfl hlt w) ?_
        refine tk 8 ?_
        refine dr_val 9 (.int .i64 x.1) rfl (by decide +kernel) rfl rfl (fun w9 hS9 => val_load1 hT rfl rfl rfl (by rw [hS9]; exact hr2 0 _ rfl)) hS ?_
        refine dno 10 ?_
        refine tk 11 ?_
        refine tk 12 ?_
        refine tk 13 ?_
        refine dr_any 14 _ rfl (by decide +kernel) rfl rfl (fun w => val_index i hT rfl rfl rfl rfl rfl hlt w) ?_
        refine tk 15 ?_
        refine dr_val 16 (.int .i64 x.2.1) rfl (by decide +kernel) rfl rfl (fun w9 hS9 => val_load1 hT rfl rfl rfl (by rw [hS9]; exact hr1 1 _ rfl)) hS ?_
        refine tk 17 ?_
        refine tk 18 ?_
        refine dr_any 19 _ rfl (by decide +kernel) rfl rfl (fun w => val_index i hT rfl rfl rfl rfl rfl hlt w) ?_
        refine tk 20 ?_
        refine dr_val 21 (.int .i64 x.2.1) rfl (by decide +kernel) rfl rfl (fun w9 hS9 => val_load1 hT rfl rfl rfl (by rw [hS9]; exact hr2 1 _ rfl)) hS ?_
        refine dno 22 ?_
        refine tk 23 ?_
        refine tk 24 ?_
        refine tk 25 ?_
        refine tk 26 ?_
        refine dr_any 27 _ rfl (by decide +kernel) rfl rfl (fun w => val_index i hT rfl rfl rfl rfl rfl hlt w) ?_
        refine tk 28 ?_
        refine dr_val 29 (.int .i64 x.2.2.1) rfl (by decide +kernel) rfl rfl (fun w9 hS9 => val_load1 hT rfl rfl rfl (by rw [hS9]; exact hr1 2 _ rfl)) hS ?_
        refine tk 30 ?_
        refine tk 31 ?_
        refine dr_any 32 _ rfl (by decide +kernel) rfl rfl (fun w => val_index i hT rfl rfl rfl rfl rfl hlt w) ?_
        refine tk 33 ?_
        refine dr_val 34 (.int .i64 x.2.2.1) rfl (by decide +kernel) rfl rfl (fun w9 hS9 => val_load1 hT rfl rfl rfl (by rw [hS9]; exact hr2 2 _ rfl)) hS ?_
        refine dno 35 ?_
        refine tk 36 ?_
        refine tk 37 ?_
        refine tk 38 ?_
        refine tk 39 ?_
        refine dr_any 40 _ rfl (by decide +kernel) rfl rfl (fun w => val_index i hT rfl rfl rfl rfl rfl hlt w) ?_
        refine tk 41 ?_
        refine dr_val 42 (.int .i64 x.2.2.2) rfl (by decide +kernel) rfl rfl (fun w9 hS9 => val_load1 hT rfl rfl rfl (by rw [hS9]; exact hr1 3 _ rfl)) hS ?_
        refine tk 43 ?_
        refine tk 44 ?_
        refine dr_any 45 _ rfl (by decide +kernel) rfl rfl (fun w => val_index i hT rfl rfl rfl rfl rfl hlt w) ?_
        refine tk 46 ?_
        refine dr_val 47 (.int .i64 x.2.2.2) rfl (by decide +kernel) rfl rfl (fun w9 hS9 => val_load1 hT rfl rfl rfl (by rw [hS9]; exact hr2 3 _ rfl)) hS ?_
        refine dno 48 ?_
        refine tk 49 ?_
        refine dr_done (by decide +kernel) ?_
        refine au ?_
        refine pl_num (((i + 1 : Nat) : Int)) rfl rfl rfl rfl rfl (by simp only [ariP]; omega) ?_
        refine au ?_
        refine rn_sub ?_ (ih (W.length - (i + 1)) [(4, .slice (some ⟨b1, q1, none⟩) W.length lc), (7, .slice (some ⟨b2, q2, none⟩) W.length mc), (8, .int .i64 ((i + 1 : Nat) : Int))] w11.drew (by omega) ⟨i + 1, by omega, rfl, rfl, hk11.drew⟩)
        exact ⟨rfl, rfl, rfl, trivial⟩
      · refine nay ?_
        refine au ?_
        exact rn_ret Try.func3 (.inl ⟨_, rfl, rfl⟩) ⟨rfl, hk010.tr hk11⟩
    · refine ye ?_
      have hmk : makeOf vs body = [] := by
        unfold makeOf
        rw [if_neg (by rw [← hc]; exact hc0)]
      rw [hmk]
      refine au ?_
      refine ye ?_
      refine au ?_
      exact rn_ret Try.func3 (.inl ⟨_, rfl, rfl⟩) ⟨rfl, hk09⟩
end E
end Go.Proofs.Ytcgigfnbjmlhhad

/- The landed maker: how it lies in memory; contracts of next, add, lead, cell, size. -/
namespace Go.Proofs.Ytcgigfnbjmlhhad
set_option maxRecDepth 20000
set_option maxHeartbeats 4000000
namespace E
open Go.Proofs

abbrev tMk : Nat := 58
abbrev tIn : Nat := 37
theorem neMI : tMk ≠ tIn := by decide

/-- What making leaves alone: all blocks but those of instructions and of makers. -/
structure Mf (w w' : World) : Prop where
  size : w.heap.size ≤ w'.heap.size
  blk : ∀ {c : Nat} {L : List Value} {e : TypeId}, Blk w c L e → e ≠ tMk → e ≠ tIn → Blk w' c L e
theorem Mf.refl (w : World) : Mf w w := ⟨Nat.le_refl _, fun h _ _ => h⟩
theorem Mf.tr {w w' w'' : World} (h : Mf w w') (h' : Mf w' w'') : Mf w w'' := ⟨Nat.le_trans h.size h'.size, fun hb h1 h2 => h'.blk (h.blk hb h1 h2) h1 h2⟩
theorem Mf.of0 {w w' : World} (h : Keep [] w w') : Mf w w' := ⟨h.size, fun hb _ _ => h.blk hb (by simp)⟩
theorem Mf.of {w w' : World} {fp : List Nat} (h : Keep fp w w') (hf : ∀ k ∈ fp, ∃ L e, Blk w k L e ∧ (e = tMk ∨ e = tIn)) : Mf w w' :=
  ⟨h.size, fun hb h1 h2 => h.blk hb fun hm => by
    obtain ⟨L, e, hb', he⟩ := hf _ hm
    rcases he with he | he
    · exact Blk.ne hb hb' (fun h => h1 (h.trans he)) rfl
    · exact Blk.ne hb hb' (fun h => h2 (h.trans he)) rfl⟩

/-- The maker at b, over a world w0 in which it was not yet: the instructions l so far; its program. -/
structure Mk (w0 w : World) (b : Nat) (v : Value) (l : List Is) (vv bv : Value) : Prop where
  kp : Keep [] w0 w
  ge : w0.heap.size ≤ b
  bk : Blk w b [v, vv, bv] tMk
  row : RowI tIn w w0.heap.size v l
def Mt (w0 w : World) (b : Nat) (l : List Is) (vv bv : Value) : Prop := ∃ v, Mk w0 w b v l vv bv

section
variable {w0 w w1 w2 : World} {b B : Nat} {v v' vv bv : Value} {l l' : List Is}
theorem mrow_blk (h : RowI tIn w B v l) : ∀ k ∈ v.ownBlock.toList, ∃ X, Blk w k X tIn := by
  intro k hk
  rcases h.2 with ⟨rfl, _⟩ | ⟨g, cap, cur, rfl, _, hg, _⟩
  · simp [Value.ownBlock] at hk
  · have : k = g := by simpa [Value.ownBlock] using hk
    subst this
    exact ⟨cur, hg⟩
theorem mrow_ne (h : RowI tIn w B v l) {X : List Value} (hb : Blk w b X tMk) : ∀ k ∈ v.ownBlock.toList, k ≠ b := by
  intro k hk
  obtain ⟨Y, hY⟩ := mrow_blk h k hk
  exact (Blk.ne hb hY neMI).symm
theorem Mk.keep0 (h : Mk w0 w b v l vv bv) (hk : Keep [] w w1) : Mk w0 w1 b v l vv bv := ⟨h.kp.tr hk, h.ge, hk.blk h.bk (by simp), h.row.keep0 hk⟩
theorem Mt.keep0 (h : Mt w0 w b l vv bv) (hk : Keep [] w w1) : Mt w0 w1 b l vv bv := let ⟨v, h⟩ := h; ⟨v, h.keep0 hk⟩
theorem Mt.kp (h : Mt w0 w b l vv bv) : Keep [] w0 w := let ⟨_, h⟩ := h; h.kp
theorem Mk.bkA (h : Mk w0 w b v l vv bv) (hk : Keep v.ownBlock.toList w w1) : Blk w1 b [v, vv, bv] tMk := hk.blk h.bk fun hm => mrow_ne h.row h.bk b hm rfl
theorem Mk.app (h : Mk w0 w b v l vv bv) (hk : Keep v.ownBlock.toList w w1) (hrow : RowI tIn w1 w0.heap.size v' l') (hk2 : Keep [b] w1 w2) (hb : Blk w2 b [v', vv, bv] tMk) : Mk w0 w2 b v' l' vv bv ∧ Mf w w2 := by
  have hb1 := h.bkA hk
  refine ⟨⟨(h.kp.trans hk fun k hm => .inr (h.row.own k hm).1).trB hk2 h.ge, h.ge, hb, ?_⟩, ?_⟩
  · exact Own.keep hrow hk2 fun k hv hm => mrow_ne hrow hb1 k (by simpa using hv) (List.mem_singleton.1 hm)
  · refine Mf.tr (Mf.of hk fun k hm => ?_) (Mf.of hk2 fun k hm => ⟨[v, vv, bv], tMk, by rw [List.mem_singleton.1 hm]; exact hb1, .inl rfl⟩)
    obtain ⟨X, hX⟩ := mrow_blk h.row k hm
    exact ⟨X, tIn, hX, .inr rfl⟩
end

theorem built_mi03 (a n : Int) : Try.prog.built tIn [(0, .int .i64 a), (3, .int .i64 n)] = some (iC (a, 0, 0, n)).toArray := by kernel_rfl
theorem built_mi0 (a : Int) : Try.prog.built tIn [(0, .int .i64 a)] = some (iC (a, 0, 0, 0)).toArray := by kernel_rfl
theorem built_mi1 (a b : Int) : Try.prog.built tIn [(0, .int .i64 a), (1, .int .i64 b)] = some (iC (a, b, 0, 0)).toArray := by kernel_rfl
theorem built_mi2 (a b c : Int) : Try.prog.built tIn [(0, .int .i64 a), (1, .int .i64 b), (2, .int .i64 c)] = some (iC (a, b, c, 0)).toArray := by kernel_rfl
theorem zero_mi : ((Try.prog.info? tIn).bind (·.zero)).map (·.cells) = some (iC (0, 0, 0, 0)).toArray := by kernel_rfl
theorem size_mi : sizeOk Try.prog tIn 4 = true := by kernel_rfl
theorem size_mn : sizeOk Try.prog 3 1 = true := by kernel_rfl
theorem size_ms : sizeOk Try.prog 29 1 = true := by kernel_rfl
theorem slice_mi (x : Is) : sliceCells Try.prog 29 1 [(0, .agg (iC x).toArray)] = some (tIn, (iC x).toArray) := by
  obtain ⟨a, b, c, d⟩ := x
  kernel_rfl
theorem app_mi : appOk Try.prog 29 tIn 4 32 = true := by decide +kernel
theorem iC_ones (x : Is) : ∀ u ∈ iC x, u.oneCell' = true := by
  intro u hu
  simp only [iC, List.mem_cons, List.not_mem_nil, or_false] at hu
  rcases hu with rfl | rfl | rfl | rfl <;> rfl
theorem mone {v : Value} (h : v.oneCell' = true) : ∀ u ∈ [v], u.oneCell' = true := by
  intro u hu
  simp only [List.mem_cons, List.not_mem_nil, or_false] at hu
  subst hu
  exact h
theorem ins_mi {w : World} {b e : Nat} {x : Is} (hb : Blk w b (iC x) e) : InsV (fun c => c = b) w (.slice (some ⟨b, 0, none⟩) 1 1) [x] :=
  ⟨_, 1, rfl, fun _ => ⟨b, 0, rfl, rfl, hb.range (by simp [isC, iC])⟩⟩

theorem splice_in (A R : List Value) (x y z : Value) : splice (A ++ x :: y :: R) (A.length + 1) [z] = A ++ x :: z :: R := by
  have e1 : (A ++ x :: y :: R).take (A.length + 1) = A ++ [x] := by
    rw [List.take_append, List.take_of_length_le (by omega), Nat.add_sub_cancel_left]
    rfl
  have e2 : (A ++ x :: y :: R).drop (A.length + 1 + 1) = R := by
    rw [List.drop_append, List.drop_of_length_le (by omega), show A.length + 1 + 1 - A.length = 2 by omega]
    rfl
  unfold splice
  rw [e1, show A.length + 1 + [z].length = A.length + 1 + 1 from rfl, e2]
  simp
theorem isC_mid (p r : List Is) (x : Is) : isC (p ++ x :: r) = isC p ++ .int .i64 x.1 :: .int .i64 x.2.1 :: .int .i64 x.2.2.1 :: .int .i64 x.2.2.2 :: isC r := by
  simp [isC, iC]
theorem splice_row {cur : List Value} {p r : List Is} {op a c n : Int} (m : Int) (h : cur.take ((p ++ (op, a, c, n) :: r).length * 4) = isC (p ++ (op, a, c, n) :: r)) :
    (splice cur (0 + p.length * 4 + 1) [.int .i64 m]).take ((p ++ (op, a, c, n) :: r).length * 4) = isC (p ++ (op, m, c, n) :: r) := by
  obtain ⟨T, hT⟩ : ∃ T, T = cur.drop ((p ++ (op, a, c, n) :: r).length * 4) := ⟨_, rfl⟩
  have hc : cur = isC (p ++ (op, a, c, n) :: r) ++ T := by rw [hT, ← h, List.take_append_drop]
  have hp : 0 + p.length * 4 + 1 = (isC p).length + 1 := by rw [isC_length]; omega
  have hl : (p ++ (op, a, c, n) :: r).length * 4 = (isC (p ++ (op, m, c, n) :: r)).length := by rw [isC_length]; simp
  have e : splice cur (0 + p.length * 4 + 1) [.int .i64 m] = isC (p ++ (op, m, c, n) :: r) ++ T := by
    rw [hc, hp, isC_mid, isC_mid]
    simp only [List.append_assoc, List.cons_append]
    exact splice_in (isC p) _ _ _ _
  rw [e, hl, List.take_left']
  rfl

/-- What the maker's program is. -/
structure Cx (vs : List VarT) (bd : List ST) (F : Nat → Prop) (w0 : World) (vv bv : Value) : Prop where
  pr : ProgV F w0 (.agg #[vv, bv]) vs bd
  hF : In F w0
  sz : Sized vs

section
variable {w0 w : World} {b : Nat} {v vv bv : Value} {l : List Is}
theorem mnext_ret (h : Mk w0 w b v l vv bv) : Ret Try.prog 30 [.pointer (some ⟨b, 0, none⟩)] w fun r w' => r = .int .i64 (l.length : Nat) ∧ w' = w := by
  obtain ⟨a, cap, rfl⟩ := h.row.form
  refine ret_of 8 Try.func30 rfl rfl (by simp) ?_
  refine au ?_
  refine pl_val _ rfl rfl (val_load1 hT rfl rfl rfl (h.bk.cell rfl)) ?_
  refine au ?_
  exact rn_ret Try.func30 (.inl ⟨_, rfl, rfl⟩) ⟨rfl, rfl⟩

theorem madd_ret (h : Mt w0 w b l vv bv) (x : Is) (hl : l.length ≤ 900000) : Ret Try.prog 19 [.pointer (some ⟨b, 0, none⟩), .agg (iC x).toArray] w fun r w' => r = .int .i64 (l.length : Nat) ∧ Mt w0 w' b (l ++ [x]) vv bv ∧ Mf w w' := by
  obtain ⟨v, h⟩ := h
  obtain ⟨a, cap, rfl⟩ := h.row.form
  refine ret_of 19 Try.func19 rfl rfl (by simp) ?_
  refine au ?_
  refine pl_op rfl rfl (opTo_boxN (iC x) rfl rfl rfl ?_)
  intro w1 x1 hx1 hs1 hk1 hX1
  have h1 := h.keep0 hk1
  refine au ?_
  refine pl_op rfl rfl (opTo_call (fst := []) (cap := []) rfl rfl rfl rfl (by decide +kernel) ((mnext_ret h1).mono ?_))
  rintro r w1' ⟨rfl, hww⟩
  rw [hww]
  refine au ?_
  refine rn_draw (fun w' => Keep [] w1 w') [7, 10] hMix ?_
  have hS : Keep [] w1 w1.drew := (Keep.refl _ _).drew
  generalize w1.drew = w2 at *
  refine tk 0 ?_
  refine tk 1 ?_
  refine tk 2 ?_
  refine tk 3 ?_
  refine dr_val 4 (.slice a l.length cap) rfl (by decide +kernel) rfl rfl (fun w9 hS9 => val_load1 hT rfl rfl rfl ((hS9.blk h1.bk (by simp)).cell rfl)) hS ?_
  refine dr_val 5 (.agg (iC x).toArray) rfl (by decide +kernel) rfl rfl (fun w9 hS9 => val_load (iC x) hT rfl rfl rfl ((hS9.blk hX1 (by simp)).range (by rfl))) hS ?_
  refine dr_op 6 rfl (by decide +kernel) rfl rfl (opTo_sliceN tIn (iC x) rfl rfl (slice_mi x) ?_)
  intro w3 g hg hs3 hk3 hb3
  refine ⟨fun _ => hS.tr hk3, ?_⟩
  have h3 := h1.keep0 (hS.tr hk3)
  refine dr_op 7 rfl (by decide +kernel) rfl rfl (opTo_rowApp l [x] rfl rfl rfl app_mi h3.row (ins_mi hb3) (by simp; omega) h3.kp.size ?_)
  intro v4 w4 hrow4 hk4
  refine ⟨fun h => absurd (by simp) h, ?_⟩
  obtain ⟨a4, c4, rfl⟩ := hrow4.form
  refine tk 8 ?_
  refine tk 9 ?_
  refine dr_op 10 rfl (by decide +kernel) rfl rfl (opTo_storeN [.slice a4 (l ++ [x]).length c4] rfl rfl rfl rfl size_ms (h3.bkA hk4) (by simp) (mone rfl) ?_)
  intro w5 hs5 hk5 hb5
  refine ⟨fun h => absurd (by simp) h, ?_⟩
  refine dr_done (by decide +kernel) ?_
  obtain ⟨h5, hm5⟩ := h3.app hk4 hrow4 hk5 hb5
  refine au ?_
  exact rn_ret Try.func19 (.inl ⟨_, rfl, rfl⟩) ⟨rfl, ⟨_, h5⟩, (Mf.of0 (hk1.tr (hS.tr hk3))).tr hm5⟩

theorem mlead_ret {p r : List Is} {op a c n : Int} (h : Mt w0 w b (p ++ (op, a, c, n) :: r) vv bv) : Ret Try.prog 58 [.pointer (some ⟨b, 0, none⟩), .int .i64 (p.length : Nat)] w fun r' w' => r' = .tuple #[] ∧ Mt w0 w' b (p ++ (op, (((p ++ (op, a, c, n) :: r).length : Nat) : Int), c, n) :: r) vv bv ∧ Mf w w' := by
  obtain ⟨v, h⟩ := h
  obtain ⟨L, hL⟩ : ∃ L, L = p ++ (op, a, c, n) :: r := ⟨_, rfl⟩
  have hlen : L.length = p.length + 1 + r.length := by rw [hL]; simp; omega
  rw [← hL] at h
  rcases h.row.2 with ⟨_, h0⟩ | ⟨g, cap, cur, rfl, hB, hb, hc, hl, ht⟩
  · omega
  refine ret_of 13 Try.func58 rfl rfl (by simp) ?_
  refine au ?_
  refine rn_draw (fun w' => Keep [] w w') [9] hMix ?_
  have hS : Keep [] w w.drew := (Keep.refl _ _).drew
  generalize w.drew = w2 at *
  refine tk 0 ?_
  refine tk 1 ?_
  refine tk 2 ?_
  refine dr_val 3 (.slice (some ⟨g, 0, none⟩) L.length cap) rfl (by decide +kernel) rfl rfl (fun w9 hS9 => val_load1 hT rfl rfl rfl ((hS9.blk h.bk (by simp)).cell rfl)) hS ?_
  refine tk 4 ?_
  refine tk 5 ?_
  refine dr_op 6 rfl (by decide +kernel) rfl rfl (opTo_call (fst := []) (cap := []) rfl rfl rfl rfl (by decide +kernel) ((mnext_ret (h.keep0 hS)).mono ?_))
  rintro r' w2' ⟨rfl, hww⟩
  rw [hww]
  refine ⟨fun _ => hS, ?_⟩
  refine dr_any 7 _ rfl (by decide +kernel) rfl rfl (fun w => val_index p.length hT rfl rfl rfl rfl rfl (by omega) w) ?_
  refine tk 8 ?_
  have hb2 := hS.blk hb (by simp)
  refine dr_op 9 rfl (by decide +kernel) rfl rfl (opTo_storeN [.int .i64 (L.length : Nat)] rfl rfl rfl rfl size_mn hb2 (by simp; omega) (mone rfl) ?_)
  intro w3 hs3 hk3 hb3
  refine ⟨fun h => absurd (by simp) h, ?_⟩
  refine dr_done (by decide +kernel) ?_
  have h2 := h.keep0 hS
  have hgb : g ≠ b := Blk.ne hb h.bk neMI.symm
  refine au ?_
  refine rn_end Try.func58 (.inr (.inl ⟨rfl, rfl⟩)) ⟨rfl, ⟨.slice (some ⟨g, 0, none⟩) L.length cap, h2.kp.trB hk3 hB, h.ge, hk3.blk h2.bk (by simpa using hgb.symm), ?_⟩, (Mf.of0 hS).tr (Mf.of hk3 fun k hm => ⟨cur, tIn, by rw [List.mem_singleton.1 hm]; exact hb2, .inr rfl⟩)⟩
  have e : (p ++ (op, (((p ++ (op, a, c, n) :: r).length : Nat) : Int), c, n) :: r).length = L.length := by rw [hL]; simp
  refine ⟨isC_length _, .inr ⟨g, cap, _, by rw [e], hB, hb3, by rw [e]; exact hc, by rw [splice_length (by simp; omega)]; exact hl, ?_⟩⟩
  rw [e]
  rw [hL] at ht ⊢
  exact splice_row _ ht

theorem mcell_ret {vs : List VarT} {bd : List ST} {F : Nat → Prop} (C : Cx vs bd F w0 vv bv) (h : Mk w0 w b v l vv bv) (k : Int) : Ret Try.prog 47 [.pointer (some ⟨b, 0, none⟩), .int .i64 k] w fun r w' => r = .int .i64 (cellOf vs k) ∧ Keep [] w w' := by
  refine ret_of 11 Try.func47 rfl rfl (by simp) ?_
  refine au ?_
  refine pl_val (.agg #[vv, bv]) rfl rfl (val_load [vv, bv] hT rfl rfl rfl (h.bk.range (by rfl))) ?_
  refine au ?_
  refine pl_op rfl rfl (opTo_call (fst := []) (cap := []) rfl rfl rfl rfl (by decide +kernel) ((cell_ret (C.pr.keep h.kp C.hF.stays) (C.hF.keep h.kp) C.sz k).mono ?_))
  rintro r w1 ⟨rfl, hk1⟩
  refine au ?_
  exact rn_ret Try.func47 (.inl ⟨_, rfl, rfl⟩) ⟨rfl, hk1⟩

theorem msize_ret {vs : List VarT} {bd : List ST} {F : Nat → Prop} (C : Cx vs bd F w0 vv bv) (h : Mk w0 w b v l vv bv) (k : Int) (h0 : 0 ≤ k) (hk : k.toNat < vs.length) : Ret Try.prog 48 [.pointer (some ⟨b, 0, none⟩), .int .i64 k] w fun r w' => r = .int .i64 (sizeV vs k) ∧ w' = w := by
  obtain ⟨k, rfl⟩ : ∃ k' : Nat, k = (k' : Nat) := ⟨k.toNat, by omega⟩
  simp only [Int.toNat_natCast] at hk
  have hxv : vs[k]? = some vs[k] := List.getElem?_eq_getElem hk
  obtain ⟨vv', bv', hpe, hv, _⟩ := C.pr
  cases hpe
  obtain ⟨vb, vq, vc, rfl, hFv, hrv⟩ := hv.at hxv
  have hsv : sizeV vs ((k : Nat) : Int) = vs[k].2 := by
    unfold sizeV
    rw [Int.toNat_natCast, List.getD_eq_getElem?_getD, hxv]
    rfl
  rw [hsv]
  refine ret_of 14 Try.func48 rfl rfl (by simp) ?_
  refine au ?_
  refine pl_val _ rfl rfl (val_load1 hT rfl rfl rfl (h.bk.cell rfl)) ?_
  refine au ?_
  refine pl_val _ rfl rfl (val_index k hT rfl rfl rfl rfl rfl hk w) ?_
  refine au ?_
  refine pl_val _ rfl rfl (val_load1 hT rfl rfl rfl ((range_keep hrv h.kp (C.hF _ hFv) (by simp)) 1 (.int .i64 vs[k].2) rfl)) ?_
  refine au ?_
  exact rn_ret Try.func48 (.inl ⟨_, rfl, rfl⟩) ⟨rfl, rfl⟩
end
end E
end Go.Proofs.Ytcgigfnbjmlhhad

/- The landed maker: contract of expr. -/
namespace Go.Proofs.Ytcgigfnbjmlhhad
set_option maxRecDepth 20000
set_option maxHeartbeats 4000000
namespace E
open Go.Proofs

theorem neEM : 47 ≠ tMk := by decide
theorem neEI : 47 ≠ tIn := by decide
theorem zero_me : ((Try.prog.info? 47).bind (·.zero)).map (·.cells) = some [Value.int .i64 0, .int .i64 0, .int .i64 0, .slice none 0 0].toArray := by kernel_rfl
theorem size_me : sizeOk Try.prog 47 4 = true := by kernel_rfl

/-- expr does for what is smaller. -/
def ExM (vs : List VarT) (F : Nat → Prop) (w0 : World) (b : Nat) (vv bv : Value) (s : Nat) : Prop := ∀ (t : ET), szE t < s → gdE vs.length t → ∀ {w : World} {cs : List Value} {L : List Is}, ExprV F w0 cs t → Mt w0 w b L vv bv → L.length + szE t ≤ 900000 →
    Ret Try.prog 46 [.pointer (some ⟨b, 0, none⟩), .agg cs.toArray] w fun r w' => r = .tuple #[] ∧ Mt w0 w' b (L ++ insE vs t) vv bv ∧ Mf w w'

theorem mexpr_ret {vs : List VarT} {bd : List ST} {F : Nat → Prop} {w0 : World} {vv bv : Value} (C : Cx vs bd F w0 vv bv) {b : Nat} : ∀ (s : Nat), ExM vs F w0 b vv bv s := by
  intro s
  induction s with
  | zero => intro t ht; omega
  | succ s ihs =>
    intro t ht hgd w cs L hX h hl
    obtain ⟨op, v, n, l⟩ := t
    obtain ⟨lv, rfl, hE⟩ := hX.inv
    obtain ⟨a, cap, rfl⟩ := hE.form
    obtain ⟨hg1, hg2⟩ := hgd
    simp only [szE] at ht hl
    have hlen := szEs_len l
    have hil := insEs_len vs l
    refine ret_of 49 Try.func46 rfl rfl (by simp) ?_
    refine au ?_
    refine pl_op rfl rfl (opTo_boxN [.int .i64 op, .int .i64 v, .int .i64 n, .slice a l.length cap] rfl rfl rfl ?_)
    intro w1 x1 hx1 hs1 hk1 hX1
    have h1 := h.keep0 hk1
    refine auj ?_
    refine rn_seq ?_
    refine rn_seq ?_
    refine auj ?_
    refine rn_plain ?_
    refine auj ?_
    refine pl_val _ rfl rfl (val_load1 hT rfl rfl rfl (hX1.cell rfl)) ?_
    refine au ?_
    refine rn_ind (fun m σ w' => ∃ i : Nat, i ≤ l.length ∧ m = l.length - i ∧ σ = [(0, .pointer (some ⟨b, 0, none⟩)), (3, .pointer (some ⟨x1, 0, none⟩)), (8, .slice a l.length cap), (9, .int .i64 (l.length : Nat)), (10, .int .i64 (i : Nat))] ∧ Mt w0 w' b (L ++ insEs vs (l.take i)) vv bv ∧ Mf w1 w') l.length _ ?_ ⟨0, by omega, by omega, rfl, by simpa [insEs] using h1, Mf.refl _⟩ ?_
    · exact ⟨rfl, rfl, rfl, rfl, rfl, trivial⟩
    rintro m σ w6 ih ⟨i, hi, rfl, rfl, h6, ho6⟩
    refine au ?_
    by_cases hlt : i < l.length
    · refine ye ?_
      have hxi : l[i]? = some l[i] := List.getElem?_eq_getElem hlt
      obtain ⟨b1, q1, c1, ci, hv1, hF1, hr1, hc1⟩ := hE.at hxi
      cases hv1
      have hszi := szEs_succ hxi
      have hszt := szEs_take l (i + 1)
      have hl1 := insEs_len vs (l.take i)
      have htk := insEs_take vs hxi
      refine au ?_
      refine pl_val _ rfl rfl (val_index i hT rfl rfl rfl rfl rfl hlt w6) ?_
      refine pl_val (.agg ci.toArray) rfl rfl (val_load ci hT rfl rfl (by rw [hc1.length]; rfl) (range_keep hr1 h6.kp (C.hF _ hF1) (by simp))) ?_
      refine pl_op rfl rfl (opTo_allocN _ rfl zero_me ?_)
      intro w7 x2 hx2 hs7 hk7 hb7
      refine pl_op rfl rfl (opTo_storeN ci rfl rfl rfl rfl (by rw [hc1.length]; exact size_me) hb7 (by rw [hc1.length]; simp) hc1.one ?_)
      intro w8 hs8 hk8 hb8
      rw [splice_whole (by rw [hc1.length]; rfl)] at hb8
      have hk68 : Keep [] w6 w8 := hk7.trB hk8 (by omega)
      refine au ?_
      refine pl_val (.agg ci.toArray) rfl rfl (val_load ci hT rfl rfl (by rw [hc1.length]; rfl) (hb8.range (by simp))) ?_
      refine pl_op rfl rfl (opTo_call (fst := []) (cap := []) rfl rfl rfl rfl (by decide +kernel) ((ihs l[i] (by omega) (gdEs_at hg2 hxi) hc1 (h6.keep0 hk68) (by simp only [List.length_append]; omega)).mono ?_))
      rintro r w9 ⟨rfl, h9, ho9⟩
      refine au ?_
      refine pl_num (((i + 1 : Nat) : Int)) rfl rfl rfl rfl rfl (by simp only [ariP]; omega) ?_
      refine au ?_
      refine rn_sub ?_ (ih (l.length - (i + 1)) [(0, .pointer (some ⟨b, 0, none⟩)), (3, .pointer (some ⟨x1, 0, none⟩)), (8, .slice (some ⟨b1, q1, none⟩) l.length cap), (9, .int .i64 (l.length : Nat)), (10, .int .i64 ((i + 1 : Nat) : Int))] w9 (by omega) ⟨i + 1, by omega, rfl, rfl, ?_, (ho6.tr (Mf.of0 hk68)).tr ho9⟩)
      · exact ⟨rfl, rfl, rfl, rfl, rfl, trivial⟩
      · rw [htk, ← List.append_assoc]
        exact h9
    · refine nay ?_
      rw [List.take_of_length_le (by omega)] at h6
      have hX6 := ho6.blk hX1 neEM neEI
      refine au ?_
      refine pl_val _ rfl rfl (val_load1 hT rfl rfl rfl (hX6.cell rfl)) ?_
      refine au ?_
      refine pl_val _ rfl rfl (val_load1 hT rfl rfl rfl (hX6.cell rfl)) ?_
      refine pl_val _ rfl rfl (val_build _ rfl rfl (built_mi03 op n) w6) ?_
      refine pl_op rfl rfl (opTo_allocN _ rfl zero_mi ?_)
      intro w7 x7 hx7 hs7 hk7 hb7
      refine pl_op rfl rfl (opTo_storeN (iC (op, 0, 0, n)) rfl rfl rfl rfl size_mi hb7 (by simp [iC]) (iC_ones _) ?_)
      intro w8 hs8 hk8 hb8
      rw [splice_whole (by rfl)] at hb8
      have hk68 : Keep [] w6 w8 := hk7.trB hk8 (by omega)
      have hX8 := hk68.blk hX6 (by simp)
      obtain ⟨mv, h8⟩ := h6.keep0 hk68
      refine auj ?_
      refine rn_seq ?_
      refine rn_with (fun σ' w' => Blk w' x7 (iC (op, if op = 2 ∨ op = 3 then cellOf vs v else 0, if op = 3 then sizeV vs v else 0, n)) tIn ∧ Keep [] w6 w' ∧ Sub [(0, .pointer (some ⟨b, 0, none⟩)), (6, .pointer (some ⟨x7, 0, none⟩))] σ') ?_ ?_
      rotate_left
      · intro fin
        refine au ?_
        refine pl_val _ rfl rfl (val_load1 hT rfl rfl rfl (hX8.cell rfl)) ?_
        refine au ?_
        by_cases h2 : op = 2
        · rw [if_pos (.inl h2), if_neg (by omega)] at fin
          refine ye ?_
          refine auj ?_
          refine rn_plain ?_
          refine auj ?_
          refine pl_val _ rfl rfl (val_load1 hT rfl rfl rfl (hX8.cell rfl)) ?_
          refine pl_op rfl rfl (opTo_call (fst := []) (cap := []) rfl rfl rfl rfl (by decide +kernel) ((mcell_ret C h8 v).mono ?_))
          rintro r w9 ⟨rfl, hk9⟩
          refine au ?_
          refine pl_op rfl rfl (opTo_storeN [.int .i64 (cellOf vs v)] rfl rfl rfl rfl size_mn (hk9.blk hb8 (by simp)) (by simp [iC]) (mone rfl) ?_)
          intro w10 hs10 hk10 hb10
          refine auj ?_
          exact fin _ _ ⟨hb10, (hk68.tr hk9).trB hk10 (by omega), rfl, rfl, trivial⟩
        · refine nay ?_
          refine au ?_
          by_cases h3 : op = 3
          · obtain ⟨hv0, hvl⟩ := hg1 (.inr h3)
            rw [if_pos (.inr h3), if_pos h3] at fin
            refine ye ?_
            refine auj ?_
            refine rn_draw (fun w' => Keep [] w8 w') [9, 11] hMix ?_
            have hS : Keep [] w8 w8.drew := (Keep.refl _ _).drew
            generalize w8.drew = w9 at *
            refine tk 0 ?_
            refine tk 1 ?_
            refine dr_val 2 (.int .i64 v) rfl (by decide +kernel) rfl rfl (fun w9 hS9 => val_load1 hT rfl rfl rfl ((hS9.blk hX8 (by simp)).cell rfl)) hS ?_
            refine tk 4 ?_
            refine tk 5 ?_
            refine dr_val 6 (.int .i64 v) rfl (by decide +kernel) rfl rfl (fun w9 hS9 => val_load1 hT rfl rfl rfl ((hS9.blk hX8 (by simp)).cell rfl)) hS ?_
            refine dr_op 3 rfl (by decide +kernel) rfl rfl (opTo_call (fst := []) (cap := []) rfl rfl rfl rfl (by decide +kernel) ((mcell_ret C (h8.keep0 hS) v).mono ?_))
            rintro r w10 ⟨rfl, hk10⟩
            have hS10 := hS.tr hk10
            refine ⟨fun _ => hS10, ?_⟩
            refine tk 8 ?_
            refine dr_op 7 rfl (by decide +kernel) rfl rfl (opTo_call (fst := []) (cap := []) rfl rfl rfl rfl (by decide +kernel) ((msize_ret C (h8.keep0 hS10) v hv0 hvl).mono ?_))
            rintro r w10' ⟨rfl, hww⟩
            rw [hww]
            refine ⟨fun _ => hS10, ?_⟩
            refine dr_op 9 rfl (by decide +kernel) rfl rfl (opTo_storeN [.int .i64 (cellOf vs v)] rfl rfl rfl rfl size_mn (hS10.blk hb8 (by simp)) (by simp [iC]) (mone rfl) ?_)
            intro w11 hs11 hk11 hb11
            refine ⟨fun h => absurd (by simp) h, ?_⟩
            refine tk 10 ?_
            refine dr_op 11 rfl (by decide +kernel) rfl rfl (opTo_storeN [.int .i64 (sizeV vs v)] rfl rfl rfl rfl size_mn hb11 (by simp [iC, splice]) (mone rfl) ?_)
            intro w12 hs12 hk12 hb12
            refine ⟨fun h => absurd (by simp) h, ?_⟩
            refine dr_done (by decide +kernel) ?_
            refine auj ?_
            exact fin _ _ ⟨hb12, ((hk68.tr hS10).trB hk11 (by omega)).trB hk12 (by omega), rfl, rfl, trivial⟩
          · refine nay ?_
            rw [if_neg (by omega), if_neg h3] at fin
            refine auj ?_
            exact fin _ _ ⟨hb8, hk68, rfl, rfl, trivial⟩
      clear hb8 hk8 hs8 h8 hX8 hk68
      rintro σ' w10 ⟨hb10, hk610, hsub⟩
      refine rn_sub hsub ?_
      obtain ⟨X, hXe⟩ : ∃ X : Is, X = (op, if op = 2 ∨ op = 3 then cellOf vs v else 0, if op = 3 then sizeV vs v else 0, n) := ⟨_, rfl⟩
      rw [← hXe] at hb10
      refine rn_draw (fun w' => Keep [] w10 w') [4] hMix ?_
      have hS : Keep [] w10 w10.drew := (Keep.refl _ _).drew
      generalize w10.drew = w11 at *
      refine tk 0 ?_
      refine tk 1 ?_
      refine tk 2 ?_
      refine dr_val 3 (.agg (iC X).toArray) rfl (by decide +kernel) rfl rfl (fun w9 hS9 => val_load (iC X) hT rfl rfl rfl ((hS9.blk hb10 (by simp)).range (by rfl))) hS ?_
      refine dr_op 4 rfl (by decide +kernel) rfl rfl (opTo_call (fst := []) (cap := []) rfl rfl rfl rfl (by decide +kernel) ((madd_ret (h6.keep0 (hk610.tr hS)) X (by simp only [List.length_append]; omega)).mono ?_))
      rintro r w12 ⟨rfl, h12, ho12⟩
      refine ⟨fun h => absurd (by simp) h, ?_⟩
      refine dr_done (by decide +kernel) ?_
      refine au ?_
      refine rn_end Try.func46 (.inr (.inl ⟨rfl, rfl⟩)) ⟨rfl, ?_, ((Mf.of0 hk1).tr ho6).tr ((Mf.of0 (hk610.tr hS)).tr ho12)⟩
      simp only [insE]
      rw [← hXe, ← List.append_assoc]
      exact h12
end E
end Go.Proofs.Ytcgigfnbjmlhhad
