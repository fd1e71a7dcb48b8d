/- Several texts in one: RfD, RfS, TreeO, GrowO, CoH, CoH2. -/
import Derived.Test.YtbojicehfbeepadDoorJ07
import Derived.Test.YtbojicehfbeepadDoorJ06
/- Contracts of the document's sameExpr, sameList. -/
namespace Go.Proofs.YtbojicehfbeepadDoor
set_option maxRecDepth 20000
set_option maxHeartbeats 4000000
namespace E
open Go.Proofs

theorem sameExpr_ret : ∀ (s : Nat) (t : ET), szE t ≤ s → szE t ≤ 100000 → ∀ {F F' : Nat → Prop} {w : World} {cs cs' : List Value} {u : ET}, ExprV F w cs t → ExprV F' w cs' u → In F w → In F' w →
    Ret Tryd.prog 37 [.agg cs.toArray, .agg cs'.toArray] w fun r w' => r = .bool (eqE t u) ∧ Keep [] w w' := by
  intro s
  induction s with
  | zero => intro t ht; have := szE_pos t; omega
  | succ s ih =>
    intro t ht ht3 F F' w cs cs' u h h' hF hF'
    obtain ⟨op, v, n, l⟩ := t
    obtain ⟨op', v', n', l'⟩ := u
    obtain ⟨lv, rfl, hl⟩ := h.inv
    obtain ⟨lv', rfl, hl'⟩ := h'.inv
    obtain ⟨a, ca, rfl⟩ := hl.form
    obtain ⟨b, cb, rfl⟩ := hl'.form
    simp only [szE] at ht ht3
    have hlen := szEs_len l
    refine ret_of 53 Tryd.func37 rfl rfl (by simp) ?_
    refine au ?_
    refine pl_op rfl rfl (opTo_boxN [.int .i64 op, .int .i64 v, .int .i64 n, .slice a l.length ca] rfl rfl rfl ?_)
    intro w1 x1 hx1 hs1 hk1 hX1'
    refine pl_op rfl rfl (opTo_boxN [.int .i64 op', .int .i64 v', .int .i64 n', .slice b l'.length cb] rfl rfl rfl ?_)
    intro w2 x2 hx2 hs2 hk2 hX2
    have hX1 := hk2.blk hX1' (by simp)
    have hk := hk1.tr hk2
    clear hX1' hk1 hk2
    by_cases h1 : op = op'
    · by_cases h2 : v = v'
      · by_cases h3 : n = n'
        · by_cases h4 : l.length = l'.length
          · refine aub ?_
            have heq : eqE (.mk op v n l) (.mk op' v' n' l') = eqEs l l' := by simp [eqE, h1, h2, h3]
            rw [heq]
            refine rn_ind (fun m σ w' => ∃ i : Nat, i ≤ l.length ∧ m = l.length - i ∧ σ = [(2, .pointer (some ⟨x1, 0, none⟩)), (3, .pointer (some ⟨x2, 0, none⟩)), (5, .int .i64 (i : Nat))] ∧ eqEs (l.take i) (l'.take i) = true ∧ Keep [] w2 w') l.length _ ?_ ⟨0, by omega, by omega, rfl, by simp [eqEs], Keep.refl _ _⟩ ?_
            · exact ⟨rfl, rfl, rfl, trivial⟩
            rintro m σ w3 ih2 ⟨i, hi, rfl, rfl, htk, hk3⟩
            refine au ?_
            refine pl_val _ rfl rfl (val_load1 hT rfl rfl rfl ((hk3.blk hX1 (by simp)).cell rfl)) ?_
            refine au ?_
            by_cases hlt : i < l.length
            · refine ye ?_
              refine au ?_
              have hlt2 : i < l'.length := by omega
              have hx : l[i]? = some l[i] := List.getElem?_eq_getElem hlt
              have hy : l'[i]? = some l'[i] := List.getElem?_eq_getElem hlt2
              have hsz := szEs_at hx
              have hsp := eqEs_split h4 hx hy
              have htk2 := eqEs_take h4 hx hy
              rw [htk, Bool.true_and] at hsp htk2
              have hkw3 := hk.tr hk3
              obtain ⟨b1, q1, _, ci, hv1, hF1, hr1, hc1⟩ := hl.at hx
              cases hv1
              obtain ⟨b2, q2, _, cj, hv2, hF2, hr2, hc2⟩ := hl'.at hy
              cases hv2
              refine rn_draw (fun w' => Keep [] w3 w') [] hMix ?_
              have hS : Keep [] w3 w3.drew := (Keep.refl _ _).drew
              generalize w3.drew = w4 at *
              refine tk 0 ?_
              refine dr_val 1 _ rfl (by decide +kernel) rfl rfl (fun w9 hS9 => val_load1 hT rfl rfl rfl (((hk3.tr hS9).blk hX1 (by simp)).cell rfl)) hS ?_
              refine tk 2 ?_
              refine dr_any 3 _ rfl (by decide +kernel) rfl rfl (fun w => val_index i hT rfl rfl rfl rfl rfl hlt w) ?_
              refine dr_val 4 (.agg ci.toArray) rfl (by decide +kernel) rfl rfl (fun w9 hS9 => val_load ci hT rfl rfl (by rw [hc1.length]; rfl) (range_keep hr1 (hkw3.tr hS9) (hF _ hF1) (by simp))) hS ?_
              refine tk 5 ?_
              refine dr_val 6 _ rfl (by decide +kernel) rfl rfl (fun w9 hS9 => val_load1 hT rfl rfl rfl (((hk3.tr hS9).blk hX2 (by simp)).cell rfl)) hS ?_
              refine tk 7 ?_
              refine dr_any 8 _ rfl (by decide +kernel) rfl rfl (fun w => val_index i hT rfl rfl rfl rfl rfl hlt2 w) ?_
              refine dr_val 9 (.agg cj.toArray) rfl (by decide +kernel) rfl rfl (fun w9 hS9 => val_load cj hT rfl rfl (by rw [hc2.length]; rfl) (range_keep hr2 (hkw3.tr hS9) (hF' _ hF2) (by simp))) hS ?_
              refine dr_op 10 rfl (by decide +kernel) rfl rfl (opTo_call rfl rfl rfl rfl (by decide +kernel) ((ih l[i] (by omega) (by omega) (hc1.keep (hkw3.tr hS) hF.stays) (hc2.keep (hkw3.tr hS) hF'.stays) (hF.keep (hkw3.tr hS)) (hF'.keep (hkw3.tr hS))).mono ?_))
              rintro v5 w5 ⟨rfl, hk5⟩
              refine ⟨fun _ => hS.tr hk5, ?_⟩
              refine tk 11 ?_
              refine dr_done (by decide +kernel) ?_
              have hk35 := (hk3.tr hS).tr hk5
              cases hq : eqE l[i] l'[i] with
              | false =>
                refine au ?_
                exact rn_ret Tryd.func37 (.inl ⟨_, rfl, rfl⟩) ⟨by rw [hsp, hq]; rfl, hk.tr hk35⟩
              | true =>
                refine au ?_
                refine pl_num (((i + 1 : Nat) : Int)) rfl rfl rfl rfl rfl (by simp only [ariP]; omega) ?_
                refine au ?_
                refine rn_sub ?_ (ih2 (l.length - (i + 1)) [(2, .pointer (some ⟨x1, 0, none⟩)), (3, .pointer (some ⟨x2, 0, none⟩)), (5, .int .i64 ((i + 1 : Nat) : Int))] w5 (by omega) ⟨i + 1, by omega, rfl, rfl, by rw [htk2, hq], hk35⟩)
                exact ⟨rfl, rfl, rfl, trivial⟩
            · refine nay ?_
              refine au ?_
              rw [List.take_of_length_le (by omega), List.take_of_length_le (by omega)] at htk
              exact rn_ret Tryd.func37 (.inl ⟨_, rfl, rfl⟩) ⟨by rw [htk], hk.tr hk3⟩
          · refine aub ?_
            exact rn_ret Tryd.func37 (.inl ⟨_, rfl, rfl⟩) ⟨by simp [eqE, eqEs_ne h4], hk⟩
        · refine aub ?_
          exact rn_ret Tryd.func37 (.inl ⟨_, rfl, rfl⟩) ⟨by simp [eqE, h3], hk⟩
      · refine aub ?_
        exact rn_ret Tryd.func37 (.inl ⟨_, rfl, rfl⟩) ⟨by simp [eqE, h2], hk⟩
    · refine aub ?_
      exact rn_ret Tryd.func37 (.inl ⟨_, rfl, rfl⟩) ⟨by simp [eqE, h1], hk⟩

theorem sameList_ret : ∀ (s : Nat) (l : List ST), szSs l < s → szSs l ≤ 100000 → ∀ {F F' : Nat → Prop} {w : World} {x y : Value} {l' : List ST}, StmtsV F w x l → StmtsV F' w y l' → In F w → In F' w →
    Ret Tryd.prog 20 [x, y] w fun r w' => r = .bool (eqSs l l') ∧ Keep [] w w' := by
  intro s
  induction s with
  | zero => intro l hl; omega
  | succ s ih =>
    intro l hl hl3 F F' w x y l' h h' hF hF'
    obtain ⟨a, ca, rfl⟩ := h.form
    obtain ⟨b, cb, rfl⟩ := h'.form
    have hlen := szSs_len l
    refine ret_of 97 Tryd.func20 rfl rfl (by simp) ?_
    refine au ?_
    by_cases hn : l.length = l'.length
    · refine nay ?_
      refine au ?_
      refine rn_ind (fun m σ w' => ∃ i : Nat, i ≤ l.length ∧ m = l.length - i ∧ σ = [(0, .slice a l.length ca), (1, .slice b l'.length cb), (5, .int .i64 (i : Nat))] ∧ eqSs (l.take i) (l'.take i) = true ∧ Keep [] w w') l.length _ ?_ ⟨0, by omega, by omega, rfl, by simp [eqSs], Keep.refl _ _⟩ ?_
      · exact ⟨rfl, rfl, rfl, trivial⟩
      rintro m σ w2 ih2 ⟨i, hi, rfl, rfl, htk, hk2⟩
      refine au ?_
      by_cases hlt : i < l.length
      · refine ye ?_
        refine au ?_
        have hlt2 : i < l'.length := by omega
        have hx : l[i]? = some l[i] := List.getElem?_eq_getElem hlt
        have hy : l'[i]? = some l'[i] := List.getElem?_eq_getElem hlt2
        have hsz := szSs_at hx
        obtain ⟨op, v, e, f, lb, lo, hs⟩ : ∃ op v e f lb lo, l[i] = ST.mk op v e f lb lo := by cases l[i]; exact ⟨_, _, _, _, _, _, rfl⟩
        obtain ⟨op', v', e', f', lb', lo', hs'⟩ : ∃ op v e f lb lo, l'[i] = ST.mk op v e f lb lo := by cases l'[i]; exact ⟨_, _, _, _, _, _, rfl⟩
        rw [hs] at hx hsz
        rw [hs'] at hy
        simp only [szS] at hsz
        have hsp := eqSs_split hn hx hy
        have htk2 := eqSs_take hn hx hy
        rw [htk, Bool.true_and] at hsp htk2
        obtain ⟨b1, q1, _, ce, cf, bv, ov, hv1, hA⟩ := (h.keep hk2 hF.stays).stmtAt hx
        cases hv1
        obtain ⟨b2, q2, _, ce', cf', bv', ov', hv2, hB⟩ := (h'.keep hk2 hF'.stays).stmtAt hy
        cases hv2
        have hFA2 := hF.keep hk2
        have hFB2 := hF'.keep hk2
        refine rn_draw (fun w' => Keep [] w2 w') [] hMix ?_
        have hS : Keep [] w2 w2.drew := (Keep.refl _ _).drew
        generalize w2.drew = w3 at *
        refine dr_with 0 1208925819614629174706175 (fun σ' w' => ∃ d : Bool, d = ((((((!(op == op')) || !(v == v')) || !eqE e e') || !eqE f f') || !eqSs lb lb') || !eqSs lo lo') ∧ Keep [] w2 w' ∧ Sub ([(0, .slice (some ⟨b1, q1, none⟩) l.length ca), (1, .slice (some ⟨b2, q2, none⟩) l'.length cb), (5, .int .i64 (i : Nat)), (96, .bool d)]) σ') ?_ ?_
        · rintro σ' w5 ⟨d, hd, hS, hsub⟩
          refine dr_sub hsub ?_
          refine dr_done (by decide +kernel) ?_
          have hdq : d = !eqS (.mk op v e f lb lo) (.mk op' v' e' f' lb' lo') := by
            rw [hd]
            simp only [eqS]
            cases (op == op') <;> cases (v == v') <;> cases eqE e e' <;> cases eqE f f' <;> cases eqSs lb lb' <;> cases eqSs lo lo' <;> rfl
          cases d with
          | true =>
            refine au ?_
            refine rn_ret Tryd.func20 (.inl ⟨_, rfl, rfl⟩) ⟨?_, hk2.tr hS⟩
            have hq : eqS (.mk op v e f lb lo) (.mk op' v' e' f' lb' lo') = false := by
              revert hdq
              cases eqS (.mk op v e f lb lo) (.mk op' v' e' f' lb' lo') <;> simp
            rw [hsp, hq]
            rfl
          | false =>
            refine au ?_
            refine pl_num (((i + 1 : Nat) : Int)) rfl rfl rfl rfl rfl (by simp only [ariP]; omega) ?_
            refine au ?_
            have hq : eqS (.mk op v e f lb lo) (.mk op' v' e' f' lb' lo') = true := by
              revert hdq
              cases eqS (.mk op v e f lb lo) (.mk op' v' e' f' lb' lo') <;> simp
            refine rn_sub ?_ (ih2 (l.length - (i + 1)) [(0, .slice (some ⟨b1, q1, none⟩) l.length ca), (1, .slice (some ⟨b2, q2, none⟩) l'.length cb), (5, .int .i64 ((i + 1 : Nat) : Int))] w5 (by omega) ⟨i + 1, by omega, rfl, rfl, by rw [htk2, hq], hk2.tr hS⟩)
            exact ⟨rfl, rfl, rfl, trivial⟩
        intro f5
        refine dr_with 13 147573952589676412927 (fun σ' w' => ∃ d : Bool, d = (((((!(op == op')) || !(v == v')) || !eqE e e') || !eqE f f') || !eqSs lb lb') ∧ Keep [] w2 w' ∧ Sub ([(0, .slice (some ⟨b1, q1, none⟩) l.length ca), (1, .slice (some ⟨b2, q2, none⟩) l'.length cb), (5, .int .i64 (i : Nat)), (83, .bool d)]) σ') ?_ ?_
        · rintro σ' w5 ⟨d, hd, hS, hsub⟩
          refine dr_sub hsub ?_
          cases d with
          | true =>
            refine dr_not 67 rfl (by decide +kernel) rfl rfl ?_
            refine dr_not 68 rfl (by decide +kernel) rfl rfl ?_
            refine dr_not 69 rfl (by decide +kernel) rfl rfl ?_
            refine dr_not 70 rfl (by decide +kernel) rfl rfl ?_
            refine dr_not 71 rfl (by decide +kernel) rfl rfl ?_
            refine dr_not 72 rfl (by decide +kernel) rfl rfl ?_
            refine dr_not 73 rfl (by decide +kernel) rfl rfl ?_
            refine dr_not 74 rfl (by decide +kernel) rfl rfl ?_
            refine dr_not 75 rfl (by decide +kernel) rfl rfl ?_
            refine dr_not 76 rfl (by decide +kernel) rfl rfl ?_
            refine dr_not 77 rfl (by decide +kernel) rfl rfl ?_
            refine dr_not 78 rfl (by decide +kernel) rfl rfl ?_
            refine tk 79 ?_
            exact f5 _ _ ⟨_, by rw [← hd]; rfl, hS, rfl, rfl, rfl, rfl, trivial⟩
          | false =>
            refine tk 67 ?_
            refine tk 68 ?_
            refine dr_any 69 _ rfl (by decide +kernel) rfl rfl (fun w => val_index i hT rfl rfl rfl rfl rfl hlt w) ?_
            refine tk 70 ?_
            refine dr_val 71 _ rfl (by decide +kernel) rfl rfl (fun w9 hS9 => val_load1 hT rfl rfl rfl (hA.keep hS9 hFA2.stays).co) hS ?_
            refine tk 72 ?_
            refine tk 73 ?_
            refine dr_any 74 _ rfl (by decide +kernel) rfl rfl (fun w => val_index i hT rfl rfl rfl rfl rfl hlt2 w) ?_
            refine tk 75 ?_
            refine dr_val 76 _ rfl (by decide +kernel) rfl rfl (fun w9 hS9 => val_load1 hT rfl rfl rfl (hB.keep hS9 hFB2.stays).co) hS ?_
            refine dr_op 77 rfl (by decide +kernel) rfl rfl (opTo_call rfl rfl rfl rfl (by decide +kernel) ((ih lo (by omega) (by omega) (hA.keep hS hFA2.stays).ho (hB.keep hS hFB2.stays).ho (hFA2.keep hS) (hFB2.keep hS)).mono ?_))
            rintro v6 w6 ⟨rfl, hk6⟩
            replace hS := hS.tr hk6
            refine ⟨fun _ => hS, ?_⟩
            refine tk 78 ?_
            refine tk 79 ?_
            exact f5 _ _ ⟨_, by rw [← hd]; rfl, hS, rfl, rfl, rfl, rfl, trivial⟩
        intro f4
        clear f5
        refine dr_with 27 9007199254740991 (fun σ' w' => ∃ d : Bool, d = ((((!(op == op')) || !(v == v')) || !eqE e e') || !eqE f f') ∧ Keep [] w2 w' ∧ Sub ([(0, .slice (some ⟨b1, q1, none⟩) l.length ca), (1, .slice (some ⟨b2, q2, none⟩) l'.length cb), (5, .int .i64 (i : Nat)), (69, .bool d)]) σ') ?_ ?_
        · rintro σ' w5 ⟨d, hd, hS, hsub⟩
          refine dr_sub hsub ?_
          cases d with
          | true =>
            refine dr_not 53 rfl (by decide +kernel) rfl rfl ?_
            refine dr_not 54 rfl (by decide +kernel) rfl rfl ?_
            refine dr_not 55 rfl (by decide +kernel) rfl rfl ?_
            refine dr_not 56 rfl (by decide +kernel) rfl rfl ?_
            refine dr_not 57 rfl (by decide +kernel) rfl rfl ?_
            refine dr_not 58 rfl (by decide +kernel) rfl rfl ?_
            refine dr_not 59 rfl (by decide +kernel) rfl rfl ?_
            refine dr_not 60 rfl (by decide +kernel) rfl rfl ?_
            refine dr_not 61 rfl (by decide +kernel) rfl rfl ?_
            refine dr_not 62 rfl (by decide +kernel) rfl rfl ?_
            refine dr_not 63 rfl (by decide +kernel) rfl rfl ?_
            refine dr_not 64 rfl (by decide +kernel) rfl rfl ?_
            refine tk 65 ?_
            refine tk 66 ?_
            exact f4 _ _ ⟨_, by rw [← hd]; rfl, hS, rfl, rfl, rfl, rfl, trivial⟩
          | false =>
            refine tk 53 ?_
            refine tk 54 ?_
            refine dr_any 55 _ rfl (by decide +kernel) rfl rfl (fun w => val_index i hT rfl rfl rfl rfl rfl hlt w) ?_
            refine tk 56 ?_
            refine dr_val 57 _ rfl (by decide +kernel) rfl rfl (fun w9 hS9 => val_load1 hT rfl rfl rfl (hA.keep hS9 hFA2.stays).cb) hS ?_
            refine tk 58 ?_
            refine tk 59 ?_
            refine dr_any 60 _ rfl (by decide +kernel) rfl rfl (fun w => val_index i hT rfl rfl rfl rfl rfl hlt2 w) ?_
            refine tk 61 ?_
            refine dr_val 62 _ rfl (by decide +kernel) rfl rfl (fun w9 hS9 => val_load1 hT rfl rfl rfl (hB.keep hS9 hFB2.stays).cb) hS ?_
            refine dr_op 63 rfl (by decide +kernel) rfl rfl (opTo_call rfl rfl rfl rfl (by decide +kernel) ((ih lb (by omega) (by omega) (hA.keep hS hFA2.stays).hb (hB.keep hS hFB2.stays).hb (hFA2.keep hS) (hFB2.keep hS)).mono ?_))
            rintro v6 w6 ⟨rfl, hk6⟩
            replace hS := hS.tr hk6
            refine ⟨fun _ => hS, ?_⟩
            refine tk 64 ?_
            refine tk 65 ?_
            refine tk 66 ?_
            exact f4 _ _ ⟨_, by rw [← hd]; rfl, hS, rfl, rfl, rfl, rfl, trivial⟩
        intro f3
        clear f4
        refine dr_with 41 549755813887 (fun σ' w' => ∃ d : Bool, d = (((!(op == op')) || !(v == v')) || !eqE e e') ∧ Keep [] w2 w' ∧ Sub ([(0, .slice (some ⟨b1, q1, none⟩) l.length ca), (1, .slice (some ⟨b2, q2, none⟩) l'.length cb), (5, .int .i64 (i : Nat)), (55, .bool d)]) σ') ?_ ?_
        · rintro σ' w5 ⟨d, hd, hS, hsub⟩
          refine dr_sub hsub ?_
          cases d with
          | true =>
            refine dr_not 39 rfl (by decide +kernel) rfl rfl ?_
            refine dr_not 40 rfl (by decide +kernel) rfl rfl ?_
            refine dr_not 41 rfl (by decide +kernel) rfl rfl ?_
            refine dr_not 42 rfl (by decide +kernel) rfl rfl ?_
            refine dr_not 43 rfl (by decide +kernel) rfl rfl ?_
            refine dr_not 44 rfl (by decide +kernel) rfl rfl ?_
            refine dr_not 45 rfl (by decide +kernel) rfl rfl ?_
            refine dr_not 46 rfl (by decide +kernel) rfl rfl ?_
            refine dr_not 47 rfl (by decide +kernel) rfl rfl ?_
            refine dr_not 48 rfl (by decide +kernel) rfl rfl ?_
            refine dr_not 49 rfl (by decide +kernel) rfl rfl ?_
            refine dr_not 50 rfl (by decide +kernel) rfl rfl ?_
            refine tk 51 ?_
            refine tk 52 ?_
            exact f3 _ _ ⟨_, by rw [← hd]; rfl, hS, rfl, rfl, rfl, rfl, trivial⟩
          | false =>
            refine tk 39 ?_
            refine tk 40 ?_
            refine dr_any 41 _ rfl (by decide +kernel) rfl rfl (fun w => val_index i hT rfl rfl rfl rfl rfl hlt w) ?_
            refine tk 42 ?_
            refine dr_val 43 (.agg cf.toArray) rfl (by decide +kernel) rfl rfl (fun w9 hS9 => val_load cf hT rfl rfl (by rw [hA.hf.length]; rfl) (hA.keep hS9 hFA2.stays).rf) hS ?_
            refine tk 44 ?_
            refine tk 45 ?_
            refine dr_any 46 _ rfl (by decide +kernel) rfl rfl (fun w => val_index i hT rfl rfl rfl rfl rfl hlt2 w) ?_
            refine tk 47 ?_
            refine dr_val 48 (.agg cf'.toArray) rfl (by decide +kernel) rfl rfl (fun w9 hS9 => val_load cf' hT rfl rfl (by rw [hB.hf.length]; rfl) (hB.keep hS9 hFB2.stays).rf) hS ?_
            refine dr_op 49 rfl (by decide +kernel) rfl rfl (opTo_call rfl rfl rfl rfl (by decide +kernel) ((sameExpr_ret _ f (Nat.le_refl _) (by omega) (hA.keep hS hFA2.stays).hf (hB.keep hS hFB2.stays).hf (hFA2.keep hS) (hFB2.keep hS)).mono ?_))
            rintro v6 w6 ⟨rfl, hk6⟩
            replace hS := hS.tr hk6
            refine ⟨fun _ => hS, ?_⟩
            refine tk 50 ?_
            refine tk 51 ?_
            refine tk 52 ?_
            exact f3 _ _ ⟨_, by rw [← hd]; rfl, hS, rfl, rfl, rfl, rfl, trivial⟩
        intro f2
        clear f3
        refine dr_with 55 33554431 (fun σ' w' => ∃ d : Bool, d = ((!(op == op')) || !(v == v')) ∧ Keep [] w2 w' ∧ Sub ([(0, .slice (some ⟨b1, q1, none⟩) l.length ca), (1, .slice (some ⟨b2, q2, none⟩) l'.length cb), (5, .int .i64 (i : Nat)), (41, .bool d)]) σ') ?_ ?_
        · rintro σ' w5 ⟨d, hd, hS, hsub⟩
          refine dr_sub hsub ?_
          cases d with
          | true =>
            refine dr_not 25 rfl (by decide +kernel) rfl rfl ?_
            refine dr_not 26 rfl (by decide +kernel) rfl rfl ?_
            refine dr_not 27 rfl (by decide +kernel) rfl rfl ?_
            refine dr_not 28 rfl (by decide +kernel) rfl rfl ?_
            refine dr_not 29 rfl (by decide +kernel) rfl rfl ?_
            refine dr_not 30 rfl (by decide +kernel) rfl rfl ?_
            refine dr_not 31 rfl (by decide +kernel) rfl rfl ?_
            refine dr_not 32 rfl (by decide +kernel) rfl rfl ?_
            refine dr_not 33 rfl (by decide +kernel) rfl rfl ?_
            refine dr_not 34 rfl (by decide +kernel) rfl rfl ?_
            refine dr_not 35 rfl (by decide +kernel) rfl rfl ?_
            refine dr_not 36 rfl (by decide +kernel) rfl rfl ?_
            refine tk 37 ?_
            refine tk 38 ?_
            exact f2 _ _ ⟨_, by rw [← hd]; rfl, hS, rfl, rfl, rfl, rfl, trivial⟩
          | false =>
            refine tk 25 ?_
            refine tk 26 ?_
            refine dr_any 27 _ rfl (by decide +kernel) rfl rfl (fun w => val_index i hT rfl rfl rfl rfl rfl hlt w) ?_
            refine tk 28 ?_
            refine dr_val 29 (.agg ce.toArray) rfl (by decide +kernel) rfl rfl (fun w9 hS9 => val_load ce hT rfl rfl (by rw [hA.he.length]; rfl) (hA.keep hS9 hFA2.stays).re) hS ?_
            refine tk 30 ?_
            refine tk 31 ?_
            refine dr_any 32 _ rfl (by decide +kernel) rfl rfl (fun w => val_index i hT rfl rfl rfl rfl rfl hlt2 w) ?_
            refine tk 33 ?_
            refine dr_val 34 (.agg ce'.toArray) rfl (by decide +kernel) rfl rfl (fun w9 hS9 => val_load ce' hT rfl rfl (by rw [hB.he.length]; rfl) (hB.keep hS9 hFB2.stays).re) hS ?_
            refine dr_op 35 rfl (by decide +kernel) rfl rfl (opTo_call rfl rfl rfl rfl (by decide +kernel) ((sameExpr_ret _ e (Nat.le_refl _) (by omega) (hA.keep hS hFA2.stays).he (hB.keep hS hFB2.stays).he (hFA2.keep hS) (hFB2.keep hS)).mono ?_))
            rintro v6 w6 ⟨rfl, hk6⟩
            replace hS := hS.tr hk6
            refine ⟨fun _ => hS, ?_⟩
            refine tk 36 ?_
            refine tk 37 ?_
            refine tk 38 ?_
            exact f2 _ _ ⟨_, by rw [← hd]; rfl, hS, rfl, rfl, rfl, rfl, trivial⟩
        intro f1
        clear f2
        refine tk 0 ?_
        refine tk 1 ?_
        refine dr_any 2 _ rfl (by decide +kernel) rfl rfl (fun w => val_index i hT rfl rfl rfl rfl rfl hlt w) ?_
        refine tk 3 ?_
        refine dr_val 4 _ rfl (by decide +kernel) rfl rfl (fun w9 hS9 => val_load1 hT rfl rfl rfl (hA.keep hS9 hFA2.stays).cop) hS ?_
        refine tk 5 ?_
        refine tk 6 ?_
        refine dr_any 7 _ rfl (by decide +kernel) rfl rfl (fun w => val_index i hT rfl rfl rfl rfl rfl hlt2 w) ?_
        refine tk 8 ?_
        refine dr_val 9 _ rfl (by decide +kernel) rfl rfl (fun w9 hS9 => val_load1 hT rfl rfl rfl (hB.keep hS9 hFB2.stays).cop) hS ?_
        by_cases hop : op = op'
        · refine dno 10 ?_
          refine tk 11 ?_
          refine tk 12 ?_
          refine tk 13 ?_
          refine dr_any 14 _ rfl (by decide +kernel) rfl rfl (fun w => val_index i hT rfl rfl rfl rfl rfl hlt w) ?_
          refine tk 15 ?_
          refine dr_val 16 _ rfl (by decide +kernel) rfl rfl (fun w9 hS9 => val_load1 hT rfl rfl rfl (hA.keep hS9 hFA2.stays).cv) hS ?_
          refine tk 17 ?_
          refine tk 18 ?_
          refine dr_any 19 _ rfl (by decide +kernel) rfl rfl (fun w => val_index i hT rfl rfl rfl rfl rfl hlt2 w) ?_
          refine tk 20 ?_
          refine dr_val 21 _ rfl (by decide +kernel) rfl rfl (fun w9 hS9 => val_load1 hT rfl rfl rfl (hB.keep hS9 hFB2.stays).cv) hS ?_
          refine dr_any 22 (.bool (!(v == v'))) rfl (by decide +kernel) rfl rfl (fun w => val_int .i64 _ _ _ rfl rfl rfl (by simp only [intOp]; rfl) w) ?_
          refine tk 23 ?_
          refine tk 24 ?_
          exact f1 _ _ ⟨_, by simp [hop], hS, rfl, rfl, rfl, rfl, trivial⟩
        · refine dye 10 ?_
          refine tk 11 ?_
          refine dr_not 12 rfl (by decide +kernel) rfl rfl ?_
          refine dr_not 13 rfl (by decide +kernel) rfl rfl ?_
          refine dr_not 14 rfl (by decide +kernel) rfl rfl ?_
          refine dr_not 15 rfl (by decide +kernel) rfl rfl ?_
          refine dr_not 16 rfl (by decide +kernel) rfl rfl ?_
          refine dr_not 17 rfl (by decide +kernel) rfl rfl ?_
          refine dr_not 18 rfl (by decide +kernel) rfl rfl ?_
          refine dr_not 19 rfl (by decide +kernel) rfl rfl ?_
          refine dr_not 20 rfl (by decide +kernel) rfl rfl ?_
          refine dr_not 21 rfl (by decide +kernel) rfl rfl ?_
          refine dr_not 22 rfl (by decide +kernel) rfl rfl ?_
          refine tk 23 ?_
          refine tk 24 ?_
          exact f1 _ _ ⟨_, by simp [hop], hS, rfl, rfl, rfl, rfl, trivial⟩
      · refine nay ?_
        refine au ?_
        rw [List.take_of_length_le (by omega), List.take_of_length_le (by omega)] at htk
        exact rn_ret Tryd.func20 (.inl ⟨_, rfl, rfl⟩) ⟨by rw [htk], hk2⟩
    · refine ye ?_
      refine au ?_
      exact rn_ret Tryd.func20 (.inl ⟨_, rfl, rfl⟩) ⟨by rw [eqSs_ne hn], Keep.refl _ _⟩
end E
end Go.Proofs.YtbojicehfbeepadDoor

/- Contract of the document's Same. -/
namespace Go.Proofs.YtbojicehfbeepadDoor
set_option maxRecDepth 20000
set_option maxHeartbeats 4000000
namespace E
open Go.Proofs

theorem refSame_ret {F F' : Nat → Prop} {w : World} {x y : Value} {vs vs' : List VarT} {body body' : List ST} (h : ProgV F w x vs body) (h' : ProgV F' w y vs' body') (hF : In F w) (hF' : In F' w) (h30 : vs.length ≤ 100000) (hsz : szSs body ≤ 100000) :
    Ret Tryd.prog 10 [x, y] w fun r w' => r = .bool (eqP vs body vs' body') ∧ Keep [] w w' := by
  obtain ⟨vv, bv, rfl, hv, hb⟩ := h
  obtain ⟨vv', bv', rfl, hv', hb'⟩ := h'
  obtain ⟨av, capv, rfl⟩ := hv.form
  obtain ⟨ab, capb, rfl⟩ := hb.form
  obtain ⟨av', capv', rfl⟩ := hv'.form
  obtain ⟨ab', capb', rfl⟩ := hb'.form
  refine ret_of 39 Tryd.func10 rfl rfl (by simp) ?_
  refine au ?_
  refine pl_op rfl rfl (opTo_boxN [.slice av vs.length capv, .slice ab body.length capb] rfl rfl rfl ?_)
  intro w1 p1 hp1 hs1 hk1 hB1'
  refine pl_op rfl rfl (opTo_boxN [.slice av' vs'.length capv', .slice ab' body'.length capb'] rfl rfl rfl ?_)
  intro w2 p2 hp2 hs2 hk2 hB2
  have hB1 := hk2.blk hB1' (by simp)
  have hk := hk1.tr hk2
  clear hB1' hk1 hk2
  unfold eqP
  by_cases hn : vs.length = vs'.length
  · refine aub ?_
    refine pl_op rfl rfl (opTo_call rfl rfl rfl rfl (by decide +kernel) ((sameList_ret _ body (Nat.lt_succ_self _) hsz (hb.keep hk hF.stays) (hb'.keep hk hF'.stays) (hF.keep hk) (hF'.keep hk)).mono ?_))
    rintro v3 w3 ⟨rfl, hk3⟩
    have hk3w := hk.tr hk3
    cases hq : eqSs body body' with
    | false =>
      refine au ?_
      exact rn_ret Tryd.func10 (.inl ⟨_, rfl, rfl⟩) ⟨by simp, hk3w⟩
    | true =>
      rw [Bool.and_true]
      refine au ?_
      refine rn_ind (fun m σ w' => ∃ i : Nat, i ≤ vs.length ∧ m = vs.length - i ∧ σ = [(2, .pointer (some ⟨p1, 0, none⟩)), (3, .pointer (some ⟨p2, 0, none⟩)), (5, .int .i64 (i : Nat))] ∧ eqVs (vs.take i) (vs'.take i) = true ∧ Keep [] w2 w') vs.length _ ?_ ⟨0, by omega, by omega, rfl, by simp [eqVs], hk3⟩ ?_
      · exact ⟨rfl, rfl, rfl, trivial⟩
      rintro m σ w4 ih ⟨i, hi, rfl, rfl, heq, hk4⟩
      have hk4w := hk.tr hk4
      refine au ?_
      refine pl_val _ rfl rfl (val_load1 hT rfl rfl rfl ((hk4.blk hB1 (by simp)).cell rfl)) ?_
      refine au ?_
      by_cases hlt : i < vs.length
      · refine ye ?_
        refine au ?_
        have hx : vs[i]? = some vs[i] := List.getElem?_eq_getElem hlt
        have hy : vs'[i]? = some (vs'[i]'(by omega)) := List.getElem?_eq_getElem (by omega)
        obtain ⟨b1, q1, _, hvv, hF1, hr1⟩ := hv.at hx
        cases hvv
        obtain ⟨b2, q2, _, hvv, hF2, hr2⟩ := hv'.at hy
        cases hvv
        have hsp := eqVs_split hn hx hy
        have htk := eqVs_take hn hx hy
        rw [heq, Bool.true_and] at hsp htk
        generalize vs[i] = u at *
        generalize vs'[i]'(by omega) = z at *
        obtain ⟨us, uz⟩ := u
        obtain ⟨zs, zz⟩ := z
        refine rn_draw (fun w' => Keep [] w4 w') [] hMix ?_
        have hS : Keep [] w4 w4.drew := (Keep.refl _ _).drew
        generalize w4.drew = w5 at *
        refine tk 0 ?_
        refine dr_val 1 _ rfl (by decide +kernel) rfl rfl (fun w9 hS9 => val_load1 hT rfl rfl rfl (((hk4.tr hS9).blk hB1 (by simp)).cell rfl)) hS ?_
        refine tk 2 ?_
        refine dr_any 3 _ rfl (by decide +kernel) rfl rfl (fun w => val_index i hT rfl rfl rfl rfl rfl hlt w) ?_
        refine dr_val 4 (.agg #[.string us, .int .i64 uz]) rfl (by decide +kernel) rfl rfl (fun w9 hS9 => val_load (vcell (us, uz)) hT rfl rfl rfl (range_keep hr1 (hk4w.tr hS9) (hF _ hF1) (by simp))) hS ?_
        refine tk 5 ?_
        refine dr_val 6 _ rfl (by decide +kernel) rfl rfl (fun w9 hS9 => val_load1 hT rfl rfl rfl (((hk4.tr hS9).blk hB2 (by simp)).cell rfl)) hS ?_
        refine tk 7 ?_
        refine dr_any 8 _ rfl (by decide +kernel) rfl rfl (fun w => val_index i hT rfl rfl rfl rfl rfl (by omega) w) ?_
        refine dr_val 9 (.agg #[.string zs, .int .i64 zz]) rfl (by decide +kernel) rfl rfl (fun w9 hS9 => val_load (vcell (zs, zz)) hT rfl rfl rfl (range_keep hr2 (hk4w.tr hS9) (hF' _ hF2) (by simp))) hS ?_
        refine dr_any 10 (.bool (!(eqV (us, uz) (zs, zz)))) rfl (by decide +kernel) rfl rfl (fun w => val_nePair us zs uz zz _ (by decide +kernel) rfl rfl rfl rfl w) ?_
        refine dr_done (by decide +kernel) ?_
        cases hqv : eqV (us, uz) (zs, zz) with
        | false =>
          refine au ?_
          exact rn_ret Tryd.func10 (.inl ⟨_, rfl, rfl⟩) ⟨by rw [hsp, hqv]; rfl, hk4w.tr hS⟩
        | true =>
          refine au ?_
          refine pl_num (((i + 1 : Nat) : Int)) rfl rfl rfl rfl rfl (by simp only [ariP]; omega) ?_
          refine au ?_
          refine rn_sub ?_ (ih (vs.length - (i + 1)) [(2, .pointer (some ⟨p1, 0, none⟩)), (3, .pointer (some ⟨p2, 0, none⟩)), (5, .int .i64 ((i + 1 : Nat) : Int))] w5 (by omega) ⟨i + 1, by omega, rfl, rfl, by rw [htk, hqv], hk4.tr hS⟩)
          exact ⟨rfl, rfl, rfl, trivial⟩
      · refine nay ?_
        refine au ?_
        rw [List.take_of_length_le (by omega), List.take_of_length_le (by omega)] at heq
        exact rn_ret Tryd.func10 (.inl ⟨_, rfl, rfl⟩) ⟨by rw [heq], hk4w⟩
  · refine aub ?_
    refine rn_ret Tryd.func10 (.inl ⟨_, rfl, rfl⟩) ⟨?_, hk⟩
    have : eqVs vs vs' = false := by
      cases he : eqVs vs vs' with
      | false => rfl
      | true => exact absurd (eqVs_len he) hn
    rw [this]
    rfl
end E
end Go.Proofs.YtbojicehfbeepadDoor

/- Trees whose rows lie each in a block of its own: which block it is stands beside each row; how often a block is a row's. -/
namespace Go.Proofs.YtbojicehfbeepadDoor
set_option maxRecDepth 20000
set_option maxHeartbeats 4000000
namespace E

inductive AE where
  | mk (op v n : Int) (g : Nat) (l : List AE)
inductive AS where
  | mk (op v : Int) (e f : AE) (gb : Nat) (b : List AS) (go : Nat) (o : List AS)

mutual
def erE : AE → ET
  | .mk op v n _ l => .mk op v n (erEs l)
def erEs : List AE → List ET
  | [] => []
  | t :: r => erE t :: erEs r
end
mutual
def erS : AS → ST
  | .mk op v e f _ b _ o => .mk op v (erE e) (erE f) (erSs b) (erSs o)
def erSs : List AS → List ST
  | [] => []
  | t :: r => erS t :: erSs r
end
theorem erEs_map : ∀ l, erEs l = l.map erE
  | [] => rfl
  | t :: r => by simp [erEs, erEs_map r]
theorem erSs_map : ∀ l, erSs l = l.map erS
  | [] => rfl
  | t :: r => by simp [erSs, erSs_map r]
theorem erEs_length (l : List AE) : (erEs l).length = l.length := by simp [erEs_map]
theorem erSs_length (l : List AS) : (erSs l).length = l.length := by simp [erSs_map]

/-- A row in block g, from its head on. -/
def ARow (w : World) (k g : Nat) (a : Option Addr) (len : Nat) (cc : Nat → List Value) : Prop :=
  0 < len → a = some ⟨g, 0, none⟩ ∧ (∃ L e, Blk w g L e) ∧ ∀ i, i < len → w.rangeAt g (0 + i * k) (cc i)

inductive AExprV (w : World) : List Value → AE → Prop
  | mk {op v n : Int} {g : Nat} {l : List AE} {a : Option Addr} {cap : Nat} (cc : Nat → List Value) (hr : ARow w 4 g a l.length cc) (hc : ∀ i (h : i < l.length), AExprV w (cc i) (l[i]'h)) :
      AExprV w [.int .i64 op, .int .i64 v, .int .i64 n, .slice a l.length cap] (.mk op v n g l)
inductive AStmtV (w : World) : List Value → AS → Prop
  | mk {op v : Int} {e f : AE} {ce cf : List Value} {gb go : Nat} {b o : List AS} {ab ao : Option Addr} {capb capo : Nat} (cb co : Nat → List Value) (he : AExprV w ce e) (hf : AExprV w cf f)
      (hb : ARow w 12 gb ab b.length cb) (hcb : ∀ i (h : i < b.length), AStmtV w (cb i) (b[i]'h))
      (ho : ARow w 12 go ao o.length co) (hco : ∀ i (h : i < o.length), AStmtV w (co i) (o[i]'h)) :
      AStmtV w ([.int .i64 op, .int .i64 v] ++ ce ++ cf ++ [.slice ab b.length capb, .slice ao o.length capo]) (.mk op v e f gb b go o)
def AExprsV (w : World) (x : Value) (g : Nat) (l : List AE) : Prop :=
  ∃ a cap cc, x = .slice a l.length cap ∧ ARow w 4 g a l.length cc ∧ ∀ i (h : i < l.length), AExprV w (cc i) (l[i]'h)
def AStmtsV (w : World) (x : Value) (g : Nat) (l : List AS) : Prop :=
  ∃ a cap cc, x = .slice a l.length cap ∧ ARow w 12 g a l.length cc ∧ ∀ i (h : i < l.length), AStmtV w (cc i) (l[i]'h)

section
variable {w w' : World} {cs : List Value}
theorem ARow.keep {k g : Nat} {a : Option Addr} {len : Nat} {cc : Nat → List Value} (h : ARow w k g a len cc) (hk : Keep [] w w') : ARow w' k g a len cc := fun h0 => by
  obtain ⟨ha, ⟨L, e, hb⟩, hr⟩ := h h0
  exact ⟨ha, ⟨L, e, hk.blk hb (by simp)⟩, fun i hi => range_keep (hr i hi) hk hb.lt (by simp)⟩
theorem ARow.row {k g : Nat} {a : Option Addr} {len : Nat} {cc : Nat → List Value} (h : ARow w k g a len cc) : RowAt (fun b => b < w.heap.size) w k a len cc := fun h0 => by
  obtain ⟨ha, ⟨L, e, hb⟩, hr⟩ := h h0
  exact ⟨g, 0, ha, hb.lt, hr⟩
theorem AExprV.keep {t : AE} (h : AExprV w cs t) (hk : Keep [] w w') : AExprV w' cs t := by
  induction h with
  | mk cc hr _ ih => exact .mk cc (hr.keep hk) ih
theorem AStmtV.keep {t : AS} (h : AStmtV w cs t) (hk : Keep [] w w') : AStmtV w' cs t := by
  induction h with
  | mk cb co he hf hb _ ho _ ihb iho => exact .mk cb co (he.keep hk) (hf.keep hk) (hb.keep hk) ihb (ho.keep hk) iho
theorem AExprsV.keep {x : Value} {g : Nat} {l : List AE} (h : AExprsV w x g l) (hk : Keep [] w w') : AExprsV w' x g l := by
  obtain ⟨a, cap, cc, hx, hr, hc⟩ := h
  exact ⟨a, cap, cc, hx, hr.keep hk, fun i hi => (hc i hi).keep hk⟩
theorem AStmtsV.keep {x : Value} {g : Nat} {l : List AS} (h : AStmtsV w x g l) (hk : Keep [] w w') : AStmtsV w' x g l := by
  obtain ⟨a, cap, cc, hx, hr, hc⟩ := h
  exact ⟨a, cap, cc, hx, hr.keep hk, fun i hi => (hc i hi).keep hk⟩
theorem AExprV.plain {t : AE} (h : AExprV w cs t) : ExprV (fun b => b < w.heap.size) w cs (erE t) := by
  induction h with
  | @mk op v n g l a cap cc hr _ ih =>
    have e : l.length = (erEs l).length := (erEs_length l).symm
    simp only [erE]
    rw [e]
    refine .mk cc (by rw [← e]; exact hr.row) fun i hi => ?_
    have hi' : i < l.length := by omega
    have : (erEs l)[i] = erE l[i] := by simp [erEs_map]
    rw [this]
    exact ih i hi'
theorem AStmtV.plain {t : AS} (h : AStmtV w cs t) : StmtV (fun b => b < w.heap.size) w cs (erS t) := by
  induction h with
  | @mk op v e f ce cf gb go b o ab ao capb capo cb co he hf hb _ ho _ ihb iho =>
    have e1 : b.length = (erSs b).length := (erSs_length b).symm
    have e2 : o.length = (erSs o).length := (erSs_length o).symm
    simp only [erS]
    rw [e1, e2]
    refine .mk cb co he.plain hf.plain (by rw [← e1]; exact hb.row) (fun i hi => ?_) (by rw [← e2]; exact ho.row) (fun i hi => ?_)
    · have hi' : i < b.length := by omega
      have : (erSs b)[i] = erS b[i] := by simp [erSs_map]
      rw [this]
      exact ihb i hi'
    · have hi' : i < o.length := by omega
      have : (erSs o)[i] = erS o[i] := by simp [erSs_map]
      rw [this]
      exact iho i hi'
theorem AStmtsV.plain {x : Value} {g : Nat} {l : List AS} (h : AStmtsV w x g l) : StmtsV (fun b => b < w.heap.size) w x (erSs l) := by
  obtain ⟨a, cap, cc, rfl, hr, hc⟩ := h
  refine ⟨a, cap, cc, by rw [erSs_length], by rw [erSs_length]; exact hr.row, fun i hi => ?_⟩
  have hi' : i < l.length := by rw [erSs_length] at hi; exact hi
  have : (erSs l)[i] = erS l[i] := by simp [erSs_map]
  rw [this]
  exact (hc i hi').plain
theorem AExprsV.form {x : Value} {g : Nat} {l : List AE} (h : AExprsV w x g l) : ∃ a cap, x = .slice a l.length cap := by
  obtain ⟨a, cap, _, hv, _⟩ := h
  exact ⟨a, cap, hv⟩
theorem AStmtsV.form {x : Value} {g : Nat} {l : List AS} (h : AStmtsV w x g l) : ∃ a cap, x = .slice a l.length cap := by
  obtain ⟨a, cap, _, hv, _⟩ := h
  exact ⟨a, cap, hv⟩
theorem AExprV.inv {op v n : Int} {g : Nat} {l : List AE} (h : AExprV w cs (.mk op v n g l)) : ∃ lv, cs = [.int .i64 op, .int .i64 v, .int .i64 n, lv] ∧ AExprsV w lv g l := by
  cases h with
  | mk cc hr hc => exact ⟨_, rfl, _, _, cc, rfl, hr, hc⟩
theorem AExprV.of {op v n : Int} {g : Nat} {l : List AE} {lv : Value} (h : AExprsV w lv g l) : AExprV w [.int .i64 op, .int .i64 v, .int .i64 n, lv] (.mk op v n g l) := by
  obtain ⟨a, cap, cc, rfl, hr, hc⟩ := h
  exact .mk cc hr hc
theorem AStmtV.inv {op v : Int} {e f : AE} {gb go : Nat} {b o : List AS} (h : AStmtV w cs (.mk op v e f gb b go o)) : ∃ ce cf bv ov, cs = scells op v ce cf bv ov ∧ AExprV w ce e ∧ AExprV w cf f ∧ AStmtsV w bv gb b ∧ AStmtsV w ov go o := by
  cases h with
  | mk cb co he hf hb hcb ho hco => exact ⟨_, _, _, _, rfl, he, hf, ⟨_, _, cb, rfl, hb, hcb⟩, ⟨_, _, co, rfl, ho, hco⟩⟩
theorem AStmtV.of {op v : Int} {e f : AE} {gb go : Nat} {b o : List AS} {ce cf : List Value} {bv ov : Value} (he : AExprV w ce e) (hf : AExprV w cf f) (hb : AStmtsV w bv gb b) (ho : AStmtsV w ov go o) : AStmtV w (scells op v ce cf bv ov) (.mk op v e f gb b go o) := by
  obtain ⟨a, cap, cc, rfl, hr, hc⟩ := hb
  obtain ⟨a', cap', cc', rfl, hr', hc'⟩ := ho
  exact .mk cc cc' he hf hr hc hr' hc'
theorem AStmtsV.at {x : Value} {g : Nat} {l : List AS} (h : AStmtsV w x g l) {i : Nat} {t : AS} (ht : l[i]? = some t) : ∃ cap ci, x = .slice (some ⟨g, 0, none⟩) l.length cap ∧ (∃ L e, Blk w g L e) ∧ w.rangeAt g (0 + i * 12) ci ∧ AStmtV w ci t := by
  obtain ⟨a, cap, cc, hv, hr, hc⟩ := h
  obtain ⟨hlt, e⟩ := List.getElem?_eq_some_iff.1 ht
  obtain ⟨ha, hb, hra⟩ := hr (by omega)
  exact ⟨cap, cc i, by rw [hv, ha], hb, hra i hlt, by rw [← e]; exact hc i hlt⟩
theorem AExprsV.at {x : Value} {g : Nat} {l : List AE} (h : AExprsV w x g l) {i : Nat} {t : AE} (ht : l[i]? = some t) : ∃ cap ci, x = .slice (some ⟨g, 0, none⟩) l.length cap ∧ (∃ L e, Blk w g L e) ∧ w.rangeAt g (0 + i * 4) ci ∧ AExprV w ci t := by
  obtain ⟨a, cap, cc, hv, hr, hc⟩ := h
  obtain ⟨hlt, e⟩ := List.getElem?_eq_some_iff.1 ht
  obtain ⟨ha, hb, hra⟩ := hr (by omega)
  exact ⟨cap, cc i, by rw [hv, ha], hb, hra i hlt, by rw [← e]; exact hc i hlt⟩
theorem AExprV.length {t : AE} (h : AExprV w cs t) : cs.length = 4 := by cases h; rfl
end

/-! ### How often a block is a row's -/
def hit (g b n : Nat) : Nat := if n = 0 then 0 else if g = b then 1 else 0
mutual
def cE (b : Nat) : AE → Nat
  | .mk _ _ _ g l => hit g b l.length + cEs b l
def cEs (b : Nat) : List AE → Nat
  | [] => 0
  | t :: r => cE b t + cEs b r
end
mutual
def sS (b : Nat) : AS → Nat
  | .mk _ _ _ _ gb lb go lo => hit gb b lb.length + hit go b lo.length + sSs b lb + sSs b lo
def sSs (b : Nat) : List AS → Nat
  | [] => 0
  | t :: r => sS b t + sSs b r
end
mutual
def xS (b : Nat) : AS → Nat
  | .mk _ _ e f _ lb _ lo => cE b e + cE b f + xSs b lb + xSs b lo
def xSs (b : Nat) : List AS → Nat
  | [] => 0
  | t :: r => xS b t + xSs b r
end
theorem hit_le (g b n : Nat) : hit g b n ≤ 1 := by unfold hit; split <;> (try split) <;> omega
theorem hit_self {g n : Nat} (h : 0 < n) : hit g g n = 1 := by unfold hit; rw [if_neg (by omega), if_pos rfl]
theorem hit_ne {g b n : Nat} (h : g ≠ b) : hit g b n = 0 := by unfold hit; split <;> simp_all
theorem cEs_append (b : Nat) : ∀ a c, cEs b (a ++ c) = cEs b a + cEs b c
  | [], c => by simp [cEs]
  | t :: r, c => by simp only [List.cons_append, cEs, cEs_append b r c]; omega
theorem sSs_append (b : Nat) : ∀ a c, sSs b (a ++ c) = sSs b a + sSs b c
  | [], c => by simp [sSs]
  | t :: r, c => by simp only [List.cons_append, sSs, sSs_append b r c]; omega
theorem xSs_append (b : Nat) : ∀ a c, xSs b (a ++ c) = xSs b a + xSs b c
  | [], c => by simp [xSs]
  | t :: r, c => by simp only [List.cons_append, xSs, xSs_append b r c]; omega

theorem cEs_at {b : Nat} {l : List AE} (h : cEs b l = 0) : ∀ i (hi : i < l.length), cE b (l[i]'hi) = 0 := by
  induction l with
  | nil => intro i hi; simp at hi
  | cons t r ih =>
    simp only [cEs] at h
    intro i hi
    cases i with
    | zero => simp only [List.getElem_cons_zero]; omega
    | succ i => simp only [List.getElem_cons_succ]; exact ih (by omega) i (by simpa using hi)
theorem sSs_at {b : Nat} {l : List AS} (h : sSs b l = 0) : ∀ i (hi : i < l.length), sS b (l[i]'hi) = 0 := by
  induction l with
  | nil => intro i hi; simp at hi
  | cons t r ih =>
    simp only [sSs] at h
    intro i hi
    cases i with
    | zero => simp only [List.getElem_cons_zero]; omega
    | succ i => simp only [List.getElem_cons_succ]; exact ih (by omega) i (by simpa using hi)
theorem xSs_at {b : Nat} {l : List AS} (h : xSs b l = 0) : ∀ i (hi : i < l.length), xS b (l[i]'hi) = 0 := by
  induction l with
  | nil => intro i hi; simp at hi
  | cons t r ih =>
    simp only [xSs] at h
    intro i hi
    cases i with
    | zero => simp only [List.getElem_cons_zero]; omega
    | succ i => simp only [List.getElem_cons_succ]; exact ih (by omega) i (by simpa using hi)

theorem ARow.keepBut {w w' : World} {k g x : Nat} {a : Option Addr} {len : Nat} {cc : Nat → List Value} (h : ARow w k g a len cc) (hk : Keep [x] w w') (hx : hit g x len = 0) : ARow w' k g a len cc := fun h0 => by
  obtain ⟨ha, ⟨L, e, hb⟩, hr⟩ := h h0
  have hne : g ≠ x := fun e => by subst e; rw [hit_self h0] at hx; omega
  exact ⟨ha, ⟨L, e, hk.blk hb (by simpa using hne)⟩, fun i hi => range_keep (hr i hi) hk hb.lt (by simpa using hne)⟩
theorem AExprV.keepBut {w w' : World} {cs : List Value} {x : Nat} {t : AE} (h : AExprV w cs t) (hk : Keep [x] w w') (hx : cE x t = 0) : AExprV w' cs t := by
  induction h with
  | mk cc hr _ ih =>
    simp only [cE] at hx
    exact .mk cc (hr.keepBut hk (by omega)) fun i hi => ih i hi (cEs_at (by omega) i hi)
theorem AStmtV.keepBut {w w' : World} {cs : List Value} {x : Nat} {t : AS} (h : AStmtV w cs t) (hk : Keep [x] w w') (hs : sS x t = 0) (hx : xS x t = 0) : AStmtV w' cs t := by
  induction h with
  | mk cb co he hf hb _ ho _ ihb iho =>
    simp only [sS, xS] at hs hx
    exact .mk cb co (he.keepBut hk (by omega)) (hf.keepBut hk (by omega)) (hb.keepBut hk (by omega)) (fun i hi => ihb i hi (sSs_at (by omega) i hi) (xSs_at (by omega) i hi)) (ho.keepBut hk (by omega)) (fun i hi => iho i hi (sSs_at (by omega) i hi) (xSs_at (by omega) i hi))
theorem AStmtsV.keepBut {w w' : World} {x : Nat} {v : Value} {g : Nat} {l : List AS} (h : AStmtsV w v g l) (hk : Keep [x] w w') (hh : hit g x l.length = 0) (hs : sSs x l = 0) (hx : xSs x l = 0) : AStmtsV w' v g l := by
  obtain ⟨a, cap, cc, hv, hr, hc⟩ := h
  exact ⟨a, cap, cc, hv, hr.keepBut hk hh, fun i hi => (hc i hi).keepBut hk (sSs_at hs i hi) (xSs_at hx i hi)⟩

/-- Counts that are one at most, and none outside. -/
structure Cnts (f : Nat → Nat) (lo hi : Nat) : Prop where
  one : ∀ b, f b ≤ 1
  out : ∀ b, b < lo ∨ hi ≤ b → f b = 0
theorem Cnts.zero (lo hi : Nat) : Cnts (fun _ => 0) lo hi := ⟨fun _ => by omega, fun _ _ => rfl⟩
theorem Cnts.mono {f : Nat → Nat} {lo hi lo' hi' : Nat} (h : Cnts f lo hi) (h1 : lo' ≤ lo) (h2 : hi ≤ hi') : Cnts f lo' hi' := ⟨h.one, fun b hb => h.out b (by omega)⟩
theorem Cnts.add {f g : Nat → Nat} {lo mid hi : Nat} (hf : Cnts f lo mid) (hg : Cnts g mid hi) (h1 : lo ≤ mid) (h2 : mid ≤ hi) : Cnts (fun b => f b + g b) lo hi :=
  ⟨fun b => by
    have := hf.one b
    have := hg.one b
    rcases Nat.lt_or_ge b mid with h | h
    · have := hg.out b (.inl h); omega
    · have := hf.out b (.inr h); omega,
   fun b hb => by
    have := hf.out b (by omega)
    have := hg.out b (by omega)
    omega⟩
theorem Cnts.congr {f g : Nat → Nat} {lo hi : Nat} (h : Cnts f lo hi) (e : ∀ b, g b = f b) : Cnts g lo hi := ⟨fun b => by rw [e]; exact h.one b, fun b hb => by rw [e]; exact h.out b hb⟩
/-- A row more, in a block that none is in. -/
theorem Cnts.row {f : Nat → Nat} {lo hi g n : Nat} (h : Cnts f lo hi) (hg : f g = 0) (h1 : lo ≤ g) (h2 : g < hi) : Cnts (fun b => hit g b n + f b) lo hi :=
  ⟨fun b => by
    have := h.one b
    have := hit_le g b n
    by_cases e : g = b
    · subst e; omega
    · have := hit_ne (n := n) e; omega,
   fun b hb => by
    have := h.out b hb
    have := hit_ne (n := n) (show g ≠ b by omega)
    omega⟩
end E
end Go.Proofs.YtbojicehfbeepadDoor

/- Rows of such trees that are being made by append. -/
namespace Go.Proofs.YtbojicehfbeepadDoor
set_option maxRecDepth 20000
set_option maxHeartbeats 4000000
namespace E

def appOr (v : Value) (ln m g : Nat) (w w' : World) : Prop := (v.ownBlock = some g ∧ ln + m ≤ capOf v ∧ Keep [g] w w') ∨ (g = w.heap.size ∧ Keep [] w w' ∧ w'.heap.size = w.heap.size + 1)

structure GrowE (te : Nat) (w : World) (B : Nat) (rv : Value) (ccs : List (List Value)) (ts : List AE) : Prop where
  own : Own w B te 4 rv ccs.length ccs.flatten
  len : ccs.length = ts.length
  els : ∀ j (hj : j < ts.length), AExprV w (ccs.getD j []) (ts[j]'hj)
  cnt : Cnts (fun b => cEs b ts) B w.heap.size
  apart : ∀ g, rv.ownBlock = some g → cEs g ts = 0
structure GrowS (te : Nat) (w : World) (B : Nat) (rv : Value) (ccs : List (List Value)) (ts : List AS) : Prop where
  own : Own w B te 12 rv ccs.length ccs.flatten
  len : ccs.length = ts.length
  els : ∀ j (hj : j < ts.length), AStmtV w (ccs.getD j []) (ts[j]'hj)
  cntS : Cnts (fun b => sSs b ts) B w.heap.size
  cntX : Cnts (fun b => xSs b ts) B w.heap.size
  apart : ∀ g, rv.ownBlock = some g → sSs g ts = 0 ∧ xSs g ts = 0

theorem AStmtV.length {w : World} {cs : List Value} {t : AS} (h : AStmtV w cs t) : cs.length = 12 := by
  cases h with
  | mk cb co he hf => simp [he.length, hf.length]

theorem GrowE.nil (te : Nat) (w : World) (B : Nat) : GrowE te w B (.slice none 0 0) [] [] :=
  ⟨Own.nil _ _ _ _, rfl, fun j hj => by simp at hj, (Cnts.zero _ _).congr fun b => by simp [cEs], fun g h => by cases h⟩
theorem GrowS.nil (te : Nat) (w : World) (B : Nat) : GrowS te w B (.slice none 0 0) [] [] :=
  ⟨Own.nil _ _ _ _, rfl, fun j hj => by simp at hj, (Cnts.zero _ _).congr fun b => by simp [sSs], (Cnts.zero _ _).congr fun b => by simp [xSs], fun g h => by cases h⟩

section
variable {te : Nat} {w w' : World} {B : Nat} {rv : Value} {ccs : List (List Value)}
theorem GrowE.keep {ts : List AE} (h : GrowE te w B rv ccs ts) (hk : Keep [] w w') : GrowE te w' B rv ccs ts :=
  ⟨h.own.keep hk (by simp), h.len, fun j hj => (h.els j hj).keep hk, h.cnt.mono (Nat.le_refl _) hk.size, h.apart⟩
theorem GrowS.keep {ts : List AS} (h : GrowS te w B rv ccs ts) (hk : Keep [] w w') : GrowS te w' B rv ccs ts :=
  ⟨h.own.keep hk (by simp), h.len, fun j hj => (h.els j hj).keep hk, h.cntS.mono (Nat.le_refl _) hk.size, h.cntX.mono (Nat.le_refl _) hk.size, h.apart⟩
/-- A block of another kind turns. -/
theorem GrowE.other {ts : List AE} {x : Nat} (h : GrowE te w B rv ccs ts) (hk : Keep [x] w w') (hx : x < B) : GrowE te w' B rv ccs ts :=
  ⟨h.own.keep hk (fun k hk => by have := (h.own.lt k hk).1; simp; omega), h.len, fun j hj => (h.els j hj).keepBut hk (cEs_at (h.cnt.out x (.inl hx)) j hj), h.cnt.mono (Nat.le_refl _) hk.size, h.apart⟩

theorem getD_snoc {ccs : List (List Value)} {c : List Value} (j : Nat) (hj : j < ccs.length + 1) : (ccs ++ [c]).getD j [] = if j = ccs.length then c else ccs.getD j [] := by
  split
  · rename_i h
    subst h
    simp [List.getD_eq_getElem?_getD]
  · rw [List.getD_eq_getElem?_getD, List.getD_eq_getElem?_getD, List.getElem?_append_left (by omega)]

theorem GrowE.app {ts : List AE} {w1 : World} {cs : List Value} {t : AE} {g cap : Nat} (h : GrowE te w B rv ccs ts) (ht : AExprV w1 cs t) (hc : Cnts (fun b => cE b t) w.heap.size w1.heap.size) (hk : Keep [] w w1) (hB : B ≤ w.heap.size)
    (ho : Own w' B te 4 (.slice (some ⟨g, 0, none⟩) (ccs.length + 1) cap) (ccs.length + 1) (ccs.flatten ++ cs)) (hor : appOr rv ccs.length 1 g w1 w') : GrowE te w' B (.slice (some ⟨g, 0, none⟩) (ccs.length + 1) cap) (ccs ++ [cs]) (ts ++ [t]) := by
  have h1 := h.keep hk
  have hsz : w1.heap.size ≤ w'.heap.size := by rcases hor with ⟨_, _, h⟩ | ⟨_, h, _⟩ <;> exact h.size
  have hgB : B ≤ g ∧ g < w'.heap.size := ho.lt g rfl
  have hg0 : cEs g ts = 0 ∧ cE g t = 0 := by
    rcases hor with ⟨h2, _, _⟩ | ⟨h2, _, _⟩
    · exact ⟨h.apart g h2, hc.out g (.inl (h.own.lt g h2).2)⟩
    · exact ⟨h1.cnt.out g (.inr (by omega)), hc.out g (.inr (by omega))⟩
  have hels : ∀ j (hj : j < ts.length), AExprV w' (ccs.getD j []) (ts[j]'hj) := fun j hj => by
    rcases hor with ⟨_, _, h2⟩ | ⟨_, h2, _⟩
    · exact (h1.els j hj).keepBut h2 (cEs_at hg0.1 j hj)
    · exact (h1.els j hj).keep h2
  have ht' : AExprV w' cs t := by
    rcases hor with ⟨_, _, h2⟩ | ⟨_, h2, _⟩
    · exact ht.keepBut h2 hg0.2
    · exact ht.keep h2
  refine ⟨?_, by simp [h.len], fun j hj => ?_, ?_, fun k hk => ?_⟩
  · have e1 : (ccs ++ [cs]).length = ccs.length + 1 := by simp
    have e2 : (ccs ++ [cs]).flatten = ccs.flatten ++ cs := by simp
    rw [e1, e2]
    exact ho
  · have hl := h.len
    rw [getD_snoc j (by simp at hj; omega)]
    simp only [List.length_append, List.length_cons, List.length_nil] at hj
    by_cases e : j = ccs.length
    · rw [if_pos e, List.getElem_append_right (by omega)]
      simp
      exact ht'
    · rw [if_neg e, List.getElem_append_left (by omega)]
      exact hels j (by omega)
  · exact ((h.cnt.add hc hB hk.size).mono (Nat.le_refl _) hsz).congr fun b => by rw [cEs_append]; simp [cEs]
  · simp [Value.ownBlock] at hk
    subst hk
    rw [cEs_append]
    simp [cEs]
    omega

theorem GrowS.app {ts : List AS} {w1 : World} {cs : List Value} {t : AS} {g cap : Nat} (h : GrowS te w B rv ccs ts) (ht : AStmtV w1 cs t) (hcS : Cnts (fun b => sS b t) w.heap.size w1.heap.size) (hcX : Cnts (fun b => xS b t) w.heap.size w1.heap.size) (hk : Keep [] w w1) (hB : B ≤ w.heap.size)
    (ho : Own w' B te 12 (.slice (some ⟨g, 0, none⟩) (ccs.length + 1) cap) (ccs.length + 1) (ccs.flatten ++ cs)) (hor : appOr rv ccs.length 1 g w1 w') : GrowS te w' B (.slice (some ⟨g, 0, none⟩) (ccs.length + 1) cap) (ccs ++ [cs]) (ts ++ [t]) := by
  have h1 := h.keep hk
  have hsz : w1.heap.size ≤ w'.heap.size := by rcases hor with ⟨_, _, h⟩ | ⟨_, h, _⟩ <;> exact h.size
  have hgB : B ≤ g ∧ g < w'.heap.size := ho.lt g rfl
  have hg0 : (sSs g ts = 0 ∧ xSs g ts = 0) ∧ sS g t = 0 ∧ xS g t = 0 := by
    rcases hor with ⟨h2, _, _⟩ | ⟨h2, _, _⟩
    · exact ⟨h.apart g h2, hcS.out g (.inl (h.own.lt g h2).2), hcX.out g (.inl (h.own.lt g h2).2)⟩
    · exact ⟨⟨h1.cntS.out g (.inr (by omega)), h1.cntX.out g (.inr (by omega))⟩, hcS.out g (.inr (by omega)), hcX.out g (.inr (by omega))⟩
  have hels : ∀ j (hj : j < ts.length), AStmtV w' (ccs.getD j []) (ts[j]'hj) := fun j hj => by
    rcases hor with ⟨_, _, h2⟩ | ⟨_, h2, _⟩
    · exact (h1.els j hj).keepBut h2 (sSs_at hg0.1.1 j hj) (xSs_at hg0.1.2 j hj)
    · exact (h1.els j hj).keep h2
  have ht' : AStmtV w' cs t := by
    rcases hor with ⟨_, _, h2⟩ | ⟨_, h2, _⟩
    · exact ht.keepBut h2 hg0.2.1 hg0.2.2
    · exact ht.keep h2
  refine ⟨?_, by simp [h.len], fun j hj => ?_, ?_, ?_, fun k hk => ?_⟩
  · have e1 : (ccs ++ [cs]).length = ccs.length + 1 := by simp
    have e2 : (ccs ++ [cs]).flatten = ccs.flatten ++ cs := by simp
    rw [e1, e2]
    exact ho
  · have hl := h.len
    rw [getD_snoc j (by simp at hj; omega)]
    simp only [List.length_append, List.length_cons, List.length_nil] at hj
    by_cases e : j = ccs.length
    · rw [if_pos e, List.getElem_append_right (by omega)]
      simp
      exact ht'
    · rw [if_neg e, List.getElem_append_left (by omega)]
      exact hels j (by omega)
  · exact ((h.cntS.add hcS hB hk.size).mono (Nat.le_refl _) hsz).congr fun b => by rw [sSs_append]; simp [sSs]
  · exact ((h.cntX.add hcX hB hk.size).mono (Nat.le_refl _) hsz).congr fun b => by rw [xSs_append]; simp [xSs]
  · simp [Value.ownBlock] at hk
    subst hk
    rw [sSs_append, xSs_append]
    simp [sSs, xSs]
    omega

theorem GrowE.done {ts : List AE} (h : GrowE te w B rv ccs ts) : ∃ g, AExprsV w rv g ts ∧ Cnts (fun b => hit g b ts.length + cEs b ts) B w.heap.size := by
  have hk : ∀ c ∈ ccs, c.length = 4 := fun c hm => by
    obtain ⟨i, hi, rfl⟩ := List.mem_iff_getElem.1 hm
    have := (h.els i (by rw [← h.len]; exact hi)).length
    rwa [List.getD_eq_getElem?_getD, List.getElem?_eq_getElem hi] at this
  obtain ⟨a, cap, hv, hr⟩ := own_rowAt h.own hk
  rw [h.len] at hv hr
  rcases Nat.eq_zero_or_pos ts.length with h0 | h0
  · refine ⟨0, ⟨a, cap, fun _ => [], hv, fun h1 => by omega, fun i hi => by omega⟩, h.cnt.congr fun b => by rw [h0]; simp [hit]⟩
  · obtain ⟨g, q, ha, hF, hra⟩ := hr h0
    have hlt := h.own.lt g hF
    rcases h.own.2 with ⟨_, h2⟩ | ⟨g', cap', cur, h1, _, hb, _, _, _⟩
    · rw [h.len] at h2; omega
    · rw [h1] at hF hv
      simp [Value.ownBlock] at hF
      subst hF
      injection hv with e1 e2 e3
      rw [← e1] at ha
      injection ha with ha
      injection ha with _ e4
      subst e4
      exact ⟨g', ⟨_, cap', _, by rw [h1, h.len], fun _ => ⟨rfl, ⟨_, _, hb⟩, hra⟩, h.els⟩, h.cnt.row (h.apart g' (by rw [h1]; rfl)) hlt.1 hlt.2⟩
theorem GrowS.done {ts : List AS} (h : GrowS te w B rv ccs ts) : ∃ g, AStmtsV w rv g ts ∧ Cnts (fun b => hit g b ts.length + sSs b ts) B w.heap.size := by
  have hk : ∀ c ∈ ccs, c.length = 12 := fun c hm => by
    obtain ⟨i, hi, rfl⟩ := List.mem_iff_getElem.1 hm
    have := (h.els i (by rw [← h.len]; exact hi)).length
    rwa [List.getD_eq_getElem?_getD, List.getElem?_eq_getElem hi] at this
  obtain ⟨a, cap, hv, hr⟩ := own_rowAt h.own hk
  rw [h.len] at hv hr
  rcases Nat.eq_zero_or_pos ts.length with h0 | h0
  · refine ⟨0, ⟨a, cap, fun _ => [], hv, fun h1 => by omega, fun i hi => by omega⟩, h.cntS.congr fun b => by rw [h0]; simp [hit]⟩
  · obtain ⟨g, q, ha, hF, hra⟩ := hr h0
    have hlt := h.own.lt g hF
    rcases h.own.2 with ⟨_, h2⟩ | ⟨g', cap', cur, h1, _, hb, _, _, _⟩
    · rw [h.len] at h2; omega
    · rw [h1] at hF hv
      simp [Value.ownBlock] at hF
      subst hF
      injection hv with e1 e2 e3
      rw [← e1] at ha
      injection ha with ha
      injection ha with _ e4
      subst e4
      exact ⟨g', ⟨_, cap', _, by rw [h1, h.len], fun _ => ⟨rfl, ⟨_, _, hb⟩, hra⟩, h.els⟩, h.cntS.row (h.apart g' (by rw [h1]; rfl)).1 hlt.1 hlt.2⟩
end
end E
end Go.Proofs.YtbojicehfbeepadDoor

/- Contracts of the document's Own: a program in memory of its own, each row in a block of its own. -/
namespace Go.Proofs.YtbojicehfbeepadDoor
set_option maxRecDepth 20000
set_option maxHeartbeats 4000000
namespace E
open Go.Proofs

theorem built_expr3 (a b c : Int) : Tryd.prog.built 38 [(0, .int .i64 a), (1, .int .i64 b), (2, .int .i64 c)] = some [Value.int .i64 a, .int .i64 b, .int .i64 c, .slice none 0 0].toArray := by kernel_rfl

theorem erEs_take_succ {ts : List AE} {l : List ET} {t' : AE} {i : Nat} (h : erEs ts = l.take i) (hlt : i < l.length) (ht : erE t' = l[i]) : erEs (ts ++ [t']) = l.take (i + 1) := by
  rw [erEs_map] at h ⊢
  rw [List.take_succ_eq_append_getElem hlt, List.map_append, h, ← ht]
  rfl
theorem erSs_take_succ {ts : List AS} {l : List ST} {t' : AS} {i : Nat} (h : erSs ts = l.take i) (hlt : i < l.length) (ht : erS t' = l[i]) : erSs (ts ++ [t']) = l.take (i + 1) := by
  rw [erSs_map] at h ⊢
  rw [List.take_succ_eq_append_getElem hlt, List.map_append, h, ← ht]
  rfl

theorem ownExpr_ret : ∀ (k : Nat) (t : ET), szE t ≤ k → szE t ≤ 1000 → ∀ {F : Nat → Prop} {w : World} {cs : List Value}, ExprV F w cs t → In F w →
    Ret Tryd.prog 22 [.agg cs.toArray] w fun r w' => (∃ t' cs', r = .agg cs'.toArray ∧ AExprV w' cs' t' ∧ erE t' = t ∧ Cnts (fun b => cE b t') w.heap.size w'.heap.size) ∧ Keep [] w w' := by
  intro k
  induction k with
  | zero => intro t ht; have := szE_pos t; omega
  | succ k ih =>
    intro t ht ht3 F w cs h hF
    obtain ⟨op, v, n, l⟩ := t
    obtain ⟨lv, rfl, hl⟩ := h.inv
    obtain ⟨a, cap, rfl⟩ := hl.form
    simp only [szE] at ht ht3
    have hlen := szEs_len l
    refine ret_of 31 Tryd.func22 rfl rfl (by simp) ?_
    refine au ?_
    refine pl_op rfl rfl (opTo_boxN [.int .i64 op, .int .i64 v, .int .i64 n, .slice a l.length cap] rfl rfl rfl ?_)
    intro w1 b1 hb1 hs1 hk1 hB1
    refine pl_op rfl rfl (opTo_allocN _ rfl zero_expr ?_)
    intro w2 b2 hb2 hs2 hk2 hB2
    have hB12 := hk2.blk hB1 (by simp)
    refine aub ?_
    refine pl_val _ rfl rfl (val_build _ rfl rfl (built_expr3 op v n) w2) ?_
    refine pl_op rfl rfl (opTo_allocN _ rfl zero_expr ?_)
    intro w3 b3 hb3 hs3 hk3 hB3
    refine pl_op rfl rfl (opTo_storeN _ rfl rfl rfl rfl (by kernel_rfl) hB3 (by simp [exprZ]) (by intro u hu; simp at hu; rcases hu with rfl | rfl | rfl | rfl <;> rfl) ?_)
    intro w4 hs4 hk4 hB34
    rw [splice_whole (by rfl)] at hB34
    have hk24 : Keep [] w2 w4 := hk3.trB hk4 (by omega)
    have hB14 := hk24.blk hB12 (by simp)
    have hB24 := hk24.blk hB2 (by simp)
    have hkw4 : Keep [] w w4 := (hk1.tr hk2).tr hk24
    clear hk1 hk2 hk3 hk4 hk24 hB1 hB2 hB3 hB12
    refine au ?_
    refine rn_ind (fun m σ w' => ∃ (i : Nat) (rv : Value) (ccs : List (List Value)) (ts : List AE), i ≤ l.length ∧ m = l.length - i ∧ σ = [(1, .pointer (some ⟨b1, 0, none⟩)), (2, .pointer (some ⟨b2, 0, none⟩)), (3, .pointer (some ⟨b3, 0, none⟩)), (4, .int .i64 (i : Nat))] ∧
      Blk w' b1 [.int .i64 op, .int .i64 v, .int .i64 n, .slice a l.length cap] 38 ∧ Blk w' b2 exprZ 38 ∧ Blk w' b3 [.int .i64 op, .int .i64 v, .int .i64 n, rv] 38 ∧
      GrowE 38 w' (b3 + 1) rv ccs ts ∧ erEs ts = l.take i ∧ Keep [] w w') l.length _ ?_ ⟨0, _, [], [], by omega, by omega, rfl, hB14, hB24, hB34, GrowE.nil _ _ _, rfl, hkw4⟩ ?_
    · exact ⟨rfl, rfl, rfl, rfl, trivial⟩
    clear hB14 hB24 hB34 hkw4
    rintro m σ w5 ih2 ⟨i, rv, ccs, ts, hi, rfl, rfl, hB1, hB2, hB3, hG, her, hkw⟩
    have hti : ts.length = i := by
      have := congrArg List.length her
      rw [erEs_length, List.length_take] at this
      omega
    refine au ?_
    refine pl_val _ rfl rfl (val_load1 hT rfl rfl rfl (hB1.cell rfl)) ?_
    refine au ?_
    by_cases hlt : i < l.length
    · refine ye ?_
      refine au ?_
      have hget : l[i]? = some l[i] := List.getElem?_eq_getElem hlt
      have hsz := szEs_at hget
      obtain ⟨bb, q, cap', ci, hv, _, hra, hci⟩ := (hl.keep hkw hF.stays).at hget
      cases hv
      have hF5 := hF.keep hkw
      have hbb : bb < w5.heap.size := by
        have h0 : ∃ u, ci[0]? = some u := ⟨ci[0]'(by rw [hci.length]; decide), List.getElem?_eq_getElem _⟩
        obtain ⟨u, hu⟩ := h0
        exact World.block_lt_of_cell? _ _ (hra 0 u hu)
      refine rn_draw (fun w' => Keep [] w5 w') [9, 11] hMix ?_
      have hS : Keep [] w5 w5.drew := (Keep.refl _ _).drew
      generalize w5.drew = w6 at *
      refine tk 0 ?_
      refine dr_val 1 rv rfl (by decide +kernel) rfl rfl (fun w9 hS9 => val_load1 hT rfl rfl rfl ((hS9.blk hB3 (by simp)).cell rfl)) hS ?_
      refine tk 2 ?_
      refine dr_val 3 _ rfl (by decide +kernel) rfl rfl (fun w9 hS9 => val_load1 hT rfl rfl rfl ((hS9.blk hB1 (by simp)).cell rfl)) hS ?_
      refine tk 4 ?_
      refine dr_any 5 _ rfl (by decide +kernel) rfl rfl (fun w => val_index i hT rfl rfl rfl rfl rfl hlt w) ?_
      refine dr_val 6 (.agg ci.toArray) rfl (by decide +kernel) rfl rfl (fun w9 hS9 => val_load ci hT rfl rfl (by rw [hci.length]; rfl) (range_keep hra hS9 hbb (by simp))) hS ?_
      refine dr_op 7 rfl (by decide +kernel) rfl rfl (opTo_call rfl rfl rfl rfl (by decide +kernel) ((ih l[i] (by omega) (by omega) (hci.keep hS hF5.stays) (hF5.keep hS)).mono ?_))
      rintro v7 w7 ⟨⟨t', cs', rfl, hA, he, hC⟩, hk7⟩
      have hS7 := hS.tr hk7
      refine ⟨fun _ => hS7, ?_⟩
      obtain ⟨c0, c1, c2, c3, rfl⟩ := list4 hA.length
      refine dr_op 8 rfl (by decide +kernel) rfl rfl (opTo_sliceN _ _ rfl rfl (slice_expr c0 c1 c2 c3) ?_)
      intro w8 x8 hx8 hs8 hk8 hX8
      have hS8 := hS7.tr hk8
      refine ⟨fun _ => hS8, ?_⟩
      have hG6 := hG.keep hS
      have hG8 := hG.keep hS8
      have hk68 := hk7.tr hk8
      have hci3 := hG.len
      refine dr_op 9 rfl (by decide +kernel) rfl rfl (opTo_app (b3 + 1) 38 4 48 ccs.flatten [c0, c1, c2, c3] rfl rfl rfl (by decide +kernel) hG8.own (hX8.range (by rfl)) rfl hA.plain.one (by decide) (by unfold maxLen; omega) (by omega) (by have := hB3.lt; have := hS8.size; omega) ?_)
      intro g9 cap9 w9 ho9 hor9
      refine ⟨fun h => absurd h (by simp), ?_⟩
      have hG9 := hG6.app (t := t') (hA.keep hk8) (hC.mono (Nat.le_refl _) hk8.size) hk68 (by have := hB3.lt; have := hS.size; omega) ho9 hor9
      have keepLow : ∀ (x : Nat) (L : List Value) (e : TypeId), x ≤ b3 → Blk w5 x L e → Blk w9 x L e := fun x L e hx hB => by
        have h8 := hS8.blk hB (by simp)
        rcases hor9 with ⟨h2, _, h3⟩ | ⟨_, h3, _⟩
        · exact h3.blk h8 (by have := (hG8.own.lt g9 h2).1; simp; omega)
        · exact h3.blk h8 (by simp)
      have hkw9 : Keep [] w w9 := by
        rcases hor9 with ⟨h2, _, h3⟩ | ⟨_, h3, _⟩
        · exact (hkw.tr hS8).trB h3 (by have := (hG8.own.lt g9 h2).1; omega)
        · exact (hkw.tr hS8).tr h3
      have hB1' := keepLow b1 _ _ (by omega) hB1
      have hB2' := keepLow b2 _ _ (by omega) hB2
      have hB3' := keepLow b3 _ _ (by omega) hB3
      refine dr_any 10 _ rfl (by decide +kernel) rfl rfl (fun w => val_pure hT rfl w) ?_
      refine dr_op 11 rfl (by decide +kernel) rfl rfl (opTo_storeN [.slice (some ⟨g9, 0, none⟩) (ccs.length + 1) cap9] rfl rfl rfl rfl (by kernel_rfl) hB3' (by simp) (by simp; rfl) ?_)
      intro w10 hs10 hk10 hB310
      refine ⟨fun h => absurd h (by simp), ?_⟩
      refine dr_done (by decide +kernel) ?_
      refine au ?_
      refine pl_num (((i + 1 : Nat) : Int)) rfl rfl rfl rfl rfl (by simp only [ariP]; omega) ?_
      refine au ?_
      refine rn_sub ?_ (ih2 (l.length - (i + 1)) [(1, .pointer (some ⟨b1, 0, none⟩)), (2, .pointer (some ⟨b2, 0, none⟩)), (3, .pointer (some ⟨b3, 0, none⟩)), (4, .int .i64 ((i + 1 : Nat) : Int))] w10 (by omega)
        ⟨i + 1, _, ccs ++ [[c0, c1, c2, c3]], ts ++ [t'], by omega, rfl, rfl, hk10.blk hB1' (by simp; omega), hk10.blk hB2' (by simp; omega), hB310, hG9.other hk10 (by omega), erEs_take_succ her hlt he, hkw9.trB hk10 (by omega)⟩)
      exact ⟨rfl, rfl, rfl, rfl, trivial⟩
    · refine nay ?_
      refine au ?_
      obtain ⟨g, hA, hC⟩ := hG.done
      rw [List.take_of_length_le (by omega)] at her
      refine pl_val _ rfl rfl (val_load [.int .i64 op, .int .i64 v, .int .i64 n, rv] hT rfl rfl rfl (hB3.range (by rfl))) ?_
      have hAE : AExprV w5 [.int .i64 op, .int .i64 v, .int .i64 n, rv] (.mk op v n g ts) := AExprV.of hA
      have hCE : Cnts (fun b => cE b (.mk op v n g ts)) (b3 + 1) w5.heap.size := hC.congr fun b => by simp only [cE]
      refine pl_op rfl rfl (opTo_storeN _ rfl rfl rfl rfl (by kernel_rfl) hB2 (by simp [exprZ]) hAE.plain.one ?_)
      intro w6 hs6 hk6 hB26
      rw [splice_whole (by rfl)] at hB26
      refine au ?_
      refine rn_ret Tryd.func22 (.inr (.inr (.inl ⟨_, _, _, rfl, rfl, blk_loadVar hT hB26 rfl⟩))) ⟨⟨_, _, rfl, hAE.keepBut hk6 (hCE.out b2 (by omega)), by simp only [erE, her], hCE.mono (by omega) (by omega)⟩, hkw.trB hk6 (by omega)⟩
end E
end Go.Proofs.YtbojicehfbeepadDoor

/- Contracts of the document's ownList and Own. -/
namespace Go.Proofs.YtbojicehfbeepadDoor
set_option maxRecDepth 20000
set_option maxHeartbeats 4000000
namespace E
open Go.Proofs

theorem built_stmt6 (a b : Int) (e0 e1 e2 e3 f0 f1 f2 f3 : Value) (p q : Option Addr) (m c m' c' : Nat) : Tryd.prog.built 40 [(0, .int .i64 a), (1, .int .i64 b), (2, .agg #[e0, e1, e2, e3]), (3, .agg #[f0, f1, f2, f3]), (4, .slice p m c), (5, .slice q m' c')] = some [Value.int .i64 a, .int .i64 b, e0, e1, e2, e3, f0, f1, f2, f3, .slice p m c, .slice q m' c'].toArray := by kernel_rfl
theorem slice_stmtO (a b c d e f g h i j k l : Value) : sliceCells Tryd.prog 23 1 [(0, .agg #[a, b, c, d, e, f, g, h, i, j, k, l])] = some (40, #[a, b, c, d, e, f, g, h, i, j, k, l]) := by kernel_rfl

theorem ownList_ret : ∀ (k : Nat) (l : List ST), szSs l < k → szSs l ≤ 1000 → ∀ {F : Nat → Prop} {w : World} {x : Value}, StmtsV F w x l → In F w →
    Ret Tryd.prog 12 [x] w fun r w' => (∃ g ts, AStmtsV w' r g ts ∧ erSs ts = l ∧ Cnts (fun b => hit g b ts.length + sSs b ts) w.heap.size w'.heap.size ∧ Cnts (fun b => xSs b ts) w.heap.size w'.heap.size) ∧ Keep [] w w' := by
  intro k
  induction k with
  | zero => intro l hl; omega
  | succ k ih =>
    intro l hl hl3 F w x h hF
    obtain ⟨a, cap, rfl⟩ := h.form
    have hlen := szSs_len l
    refine ret_of 50 Tryd.func12 rfl rfl (by simp) ?_
    refine au ?_
    refine rn_ind (fun m σ w' => ∃ (i : Nat) (rv : Value) (ccs : List (List Value)) (ts : List AS), i ≤ l.length ∧ m = l.length - i ∧ σ = [(0, .slice a l.length cap), (3, rv), (4, .int .i64 (i : Nat))] ∧
      GrowS 40 w' w.heap.size rv ccs ts ∧ erSs ts = l.take i ∧ Keep [] w w') l.length _ ?_ ⟨0, _, [], [], by omega, by omega, rfl, GrowS.nil _ _ _, rfl, Keep.refl _ _⟩ ?_
    · exact ⟨rfl, rfl, rfl, trivial⟩
    rintro m σ w5 ih2 ⟨i, rv, ccs, ts, hi, rfl, rfl, hG, her, hkw⟩
    have hti : ts.length = i := by
      have := congrArg List.length her
      rw [erSs_length, List.length_take] at this
      omega
    refine au ?_
    by_cases hlt : i < l.length
    · refine ye ?_
      refine au ?_
      have hget : l[i]? = some l[i] := List.getElem?_eq_getElem hlt
      have hsz := szSs_at hget
      obtain ⟨op, v, e, f, lb, lo, hs⟩ : ∃ op v e f lb lo, l[i] = ST.mk op v e f lb lo := by cases l[i]; exact ⟨_, _, _, _, _, _, rfl⟩
      rw [hs] at hget hsz
      simp only [szS] at hsz
      obtain ⟨bb, q, cap', ce, cf, bv, ov, hv, hat⟩ := (h.keep hkw hF.stays).stmtAt hget
      cases hv
      have hF5 := hF.keep hkw
      refine rn_draw (fun w' => Keep [] w5 w') [37] hMix ?_
      have hS : Keep [] w5 w5.drew := (Keep.refl _ _).drew
      generalize w5.drew = w6 at *
      refine tk 0 ?_
      refine tk 1 ?_
      refine tk 2 ?_
      refine dr_any 3 _ rfl (by decide +kernel) rfl rfl (fun w => val_index i hT rfl rfl rfl rfl rfl hlt w) ?_
      refine tk 4 ?_
      refine dr_val 5 _ rfl (by decide +kernel) rfl rfl (fun w9 hS9 => val_load1 hT rfl rfl rfl (hat.keep hS9 hF5.stays).cop) hS ?_
      refine tk 6 ?_
      refine tk 7 ?_
      refine dr_any 8 _ rfl (by decide +kernel) rfl rfl (fun w => val_index i hT rfl rfl rfl rfl rfl hlt w) ?_
      refine tk 9 ?_
      refine dr_val 10 _ rfl (by decide +kernel) rfl rfl (fun w9 hS9 => val_load1 hT rfl rfl rfl (hat.keep hS9 hF5.stays).cv) hS ?_
      refine tk 11 ?_
      refine tk 12 ?_
      refine dr_any 13 _ rfl (by decide +kernel) rfl rfl (fun w => val_index i hT rfl rfl rfl rfl rfl hlt w) ?_
      refine tk 14 ?_
      refine dr_val 15 (.agg ce.toArray) rfl (by decide +kernel) rfl rfl (fun w9 hS9 => val_load ce hT rfl rfl (by rw [hat.he.length]; rfl) (hat.keep hS9 hF5.stays).re) hS ?_
      refine tk 17 ?_
      refine tk 18 ?_
      refine dr_any 19 _ rfl (by decide +kernel) rfl rfl (fun w => val_index i hT rfl rfl rfl rfl rfl hlt w) ?_
      refine tk 20 ?_
      refine dr_val 21 (.agg cf.toArray) rfl (by decide +kernel) rfl rfl (fun w9 hS9 => val_load cf hT rfl rfl (by rw [hat.hf.length]; rfl) (hat.keep hS9 hF5.stays).rf) hS ?_
      refine tk 23 ?_
      refine tk 24 ?_
      refine dr_any 25 _ rfl (by decide +kernel) rfl rfl (fun w => val_index i hT rfl rfl rfl rfl rfl hlt w) ?_
      refine tk 26 ?_
      refine dr_val 27 bv rfl (by decide +kernel) rfl rfl (fun w9 hS9 => val_load1 hT rfl rfl rfl (hat.keep hS9 hF5.stays).cb) hS ?_
      refine tk 29 ?_
      refine tk 30 ?_
      refine dr_any 31 _ rfl (by decide +kernel) rfl rfl (fun w => val_index i hT rfl rfl rfl rfl rfl hlt w) ?_
      refine tk 32 ?_
      refine dr_val 33 ov rfl (by decide +kernel) rfl rfl (fun w9 hS9 => val_load1 hT rfl rfl rfl (hat.keep hS9 hF5.stays).co) hS ?_
      refine dr_op 16 rfl (by decide +kernel) rfl rfl (opTo_call rfl rfl rfl rfl (by decide +kernel) ((ownExpr_ret _ e (Nat.le_refl _) (by omega) (hat.keep hS hF5.stays).he (hF5.keep hS)).mono ?_))
      rintro v7 w7 ⟨⟨e', ce', rfl, hAe, hee, hCe⟩, hk7⟩
      have hS7 := hS.tr hk7
      refine ⟨fun _ => hS7, ?_⟩
      refine dr_op 22 rfl (by decide +kernel) rfl rfl (opTo_call rfl rfl rfl rfl (by decide +kernel) ((ownExpr_ret _ f (Nat.le_refl _) (by omega) (hat.keep hS7 hF5.stays).hf (hF5.keep hS7)).mono ?_))
      rintro v8 w8 ⟨⟨f', cf', rfl, hAf, hef, hCf⟩, hk8⟩
      have hS8 := hS7.tr hk8
      refine ⟨fun _ => hS8, ?_⟩
      refine dr_op 28 rfl (by decide +kernel) rfl rfl (opTo_call rfl rfl rfl rfl (by decide +kernel) ((ih lb (by omega) (by omega) (hat.keep hS8 hF5.stays).hb (hF5.keep hS8)).mono ?_))
      rintro v9 w9 ⟨⟨gb, tb, hAb, heb, hCb, hXb⟩, hk9⟩
      have hS9 := hS8.tr hk9
      refine ⟨fun _ => hS9, ?_⟩
      refine dr_op 34 rfl (by decide +kernel) rfl rfl (opTo_call rfl rfl rfl rfl (by decide +kernel) ((ih lo (by omega) (by omega) (hat.keep hS9 hF5.stays).ho (hF5.keep hS9)).mono ?_))
      rintro v10 w10 ⟨⟨go, to', hAo, heo, hCo, hXo⟩, hk10⟩
      have hS10 := hS9.tr hk10
      refine ⟨fun _ => hS10, ?_⟩
      obtain ⟨e0, e1, e2, e3, rfl⟩ := list4 hAe.length
      obtain ⟨f0, f1, f2, f3, rfl⟩ := list4 hAf.length
      obtain ⟨ab, capb, rfl⟩ := hAb.form
      obtain ⟨ao, capo, rfl⟩ := hAo.form
      refine dr_any 35 _ rfl (by decide +kernel) rfl rfl (fun w => val_build _ rfl rfl (built_stmt6 op v e0 e1 e2 e3 f0 f1 f2 f3 _ _ _ _ _ _) w) ?_
      refine dr_op 36 rfl (by decide +kernel) rfl rfl (opTo_sliceN _ _ rfl rfl (slice_stmtO _ _ _ _ _ _ _ _ _ _ _ _) ?_)
      intro w11 x11 hx11 hs11 hk11 hX11
      have hS11 := hS10.tr hk11
      refine ⟨fun _ => hS11, ?_⟩
      have hG6 := hG.keep hS
      have hG11 := hG.keep hS11
      have hk611 : Keep [] w6 w11 := (((hk7.tr hk8).tr hk9).tr hk10).tr hk11
      have hA : AStmtV w11 (scells op v [e0, e1, e2, e3] [f0, f1, f2, f3] (.slice ab tb.length capb) (.slice ao to'.length capo)) (.mk op v e' f' gb tb go to') :=
        AStmtV.of ((((hAe.keep hk8).keep hk9).keep hk10).keep hk11) (((hAf.keep hk9).keep hk10).keep hk11) ((hAb.keep hk10).keep hk11) (hAo.keep hk11)
      have hcS : Cnts (fun b => sS b (.mk op v e' f' gb tb go to')) w6.heap.size w11.heap.size :=
        ((hCb.add hCo hk9.size hk10.size).mono (by have := hk7.size; have := hk8.size; omega) hk11.size).congr fun b => by simp only [sS]; omega
      have hcX : Cnts (fun b => xS b (.mk op v e' f' gb tb go to')) w6.heap.size w11.heap.size :=
        (((((hCe.add hCf hk7.size hk8.size).add hXb (by have := hk7.size; have := hk8.size; omega) hk9.size)).add hXo (by have := hk7.size; have := hk8.size; have := hk9.size; omega) hk10.size).mono (Nat.le_refl _) hk11.size).congr fun b => by simp only [xS]
      have hci3 := hG.len
      refine dr_op 37 rfl (by decide +kernel) rfl rfl (opTo_app w.heap.size 40 12 160 ccs.flatten (scells op v [e0, e1, e2, e3] [f0, f1, f2, f3] (.slice ab tb.length capb) (.slice ao to'.length capo)) rfl rfl rfl (by decide +kernel) hG11.own (hX11.range (by rfl)) rfl hA.plain.one (by decide) (by unfold maxLen; omega) (by omega) (by have := hkw.size; have := hS11.size; omega) ?_)
      intro g12 cap12 w12 ho12 hor12
      refine ⟨fun h => absurd h (by simp), ?_⟩
      have hG12 := hG6.app hA hcS hcX hk611 (by have := hkw.size; have := hS.size; omega) ho12 hor12
      have hkw12 : Keep [] w w12 := by
        rcases hor12 with ⟨h2, _, h3⟩ | ⟨_, h3, _⟩
        · exact (hkw.tr hS11).trB h3 (hG11.own.lt g12 h2).1
        · exact (hkw.tr hS11).tr h3
      refine tk 38 ?_
      refine dr_done (by decide +kernel) ?_
      refine au ?_
      refine pl_num (((i + 1 : Nat) : Int)) rfl rfl rfl rfl rfl (by simp only [ariP]; omega) ?_
      refine au ?_
      refine rn_sub ?_ (ih2 (l.length - (i + 1)) [(0, .slice (some ⟨bb, q, none⟩) l.length cap), (3, .slice (some ⟨g12, 0, none⟩) (ccs.length + 1) cap12), (4, .int .i64 ((i + 1 : Nat) : Int))] w12 (by omega)
        ⟨i + 1, _, _, _, by omega, rfl, rfl, hG12, erSs_take_succ her hlt (by rw [hs]; simp only [erS, hee, hef, heb, heo]), hkw12⟩)
      exact ⟨rfl, rfl, rfl, trivial⟩
    · refine nay ?_
      refine au ?_
      obtain ⟨g, hA, hC⟩ := hG.done
      rw [List.take_of_length_le (by omega)] at her
      exact rn_ret Tryd.func12 (.inl ⟨_, rfl, rfl⟩) ⟨⟨g, ts, hA, her, hC, hG.cntX⟩, hkw⟩

theorem opTo_app0 {P : Program} {n : Nat} {σ : Env} {o : Oper} {w : World} {t : TypeId} {s x : Operand} {a : Option Addr} {c : Nat} {K : Value → World → Prop} (e size bytes : Nat)
    (ho : o.op = .call { callee := .builtin .append, args := #[s, x], argTypes := #[t, t] }) (hs : ev σ s = some (.slice none 0 0)) (hx : ev σ x = some (.slice a 0 c)) (hP : appOk P t e size bytes = true)
    (hK : K (.slice none 0 0) w) : OpTo P n σ o w K := by
  obtain ⟨i, z, hu, hi, hz, hsize, hby, hzs⟩ := appOk_run hP
  refine opTo_run (w' := w) (v := .slice none 0 0) (fun ac ha => ?_) hK
  have hr : (Builtin.append_ #[t, t] o.type #[.slice none 0 0, .slice a 0 c]).run P w = .ok (.slice none 0 0) w := by
    cases a <;> simp [Builtin.append_, run_underlying hu, sizeOf, typeInfo, hi, Builtin.lenOf, Builtin.firstCells, loadCells, loadCellsFrom]
  simp [execOp, ho, resolve, invoke, builtin, ha.eval hs, ha.eval hx, hr]

theorem built_prog (a b : Option Addr) (m c m' c' : Nat) : Tryd.prog.built 25 [(0, .slice a m c), (1, .slice b m' c')] = some [Value.slice a m c, .slice b m' c'].toArray := by kernel_rfl
def progZ : List Value := [.slice none 0 0, .slice none 0 0]
theorem zero_prog : ((Tryd.prog.info? 25).bind (·.zero)).map (·.cells) = some progZ.toArray := by kernel_rfl

theorem vars_flat {F : Nat → Prop} {w : World} {b q cap : Nat} {vs : List VarT} (h : VarsV F w (.slice (some ⟨b, q, none⟩) vs.length cap) vs) : w.rangeAt b q (vs.flatMap vcell) := by
  intro j u hu
  obtain ⟨p, h1, h2⟩ := flat_get (k := 2) (by decide) (fun p _ => rfl) hu
  obtain ⟨b', q', cap', hv, _, hr⟩ := h.at h1
  cases hv
  have := hr (j % 2) u h2
  rwa [show q + j / 2 * 2 + j % 2 = q + j by omega] at this

theorem Own_ret {F : Nat → Prop} {w : World} {x : Value} {vs : List VarT} {body : List ST} (h : ProgV F w x vs body) (hF : In F w) (h30 : vs.length ≤ 30) (hsz : szSs body ≤ 1000) :
    Ret Tryd.prog 7 [x] w fun r w' => (∃ vv bv g ts B1, r = .agg #[vv, bv] ∧ VarsV (fun b => w.heap.size ≤ b ∧ b < B1) w' vv vs ∧ AStmtsV w' bv g ts ∧ erSs ts = body ∧ (∀ b, hit g b ts.length + sSs b ts ≤ 1) ∧ (∀ b, xSs b ts ≤ 1) ∧
      (∀ b, b < B1 → hit g b ts.length + sSs b ts = 0 ∧ xSs b ts = 0) ∧ w.heap.size ≤ B1 ∧ B1 ≤ w'.heap.size) ∧ Keep [] w w' := by
  obtain ⟨vv, bv, rfl, hv, hb⟩ := h
  obtain ⟨av, capv, rfl⟩ := hv.form
  obtain ⟨ab, capb, rfl⟩ := hb.form
  refine ret_of 12 Tryd.func7 rfl rfl (by simp) ?_
  refine au ?_
  refine pl_op rfl rfl (opTo_boxN [.slice av vs.length capv, .slice ab body.length capb] rfl rfl rfl ?_)
  intro w1 b1 hb1 hs1 hk1 hB1
  refine pl_op rfl rfl (opTo_allocN _ rfl zero_prog ?_)
  intro w2 b2 hb2 hs2 hk2 hB2
  have hkw2 := hk1.tr hk2
  refine au ?_
  refine rn_draw (fun w' => Keep [] w2 w' ∧ Blk w' b1 [.slice av vs.length capv, .slice ab body.length capb] 25) [8] hMix ?_
  have hS : Keep [] w2 w2.drew ∧ Blk w2.drew b1 [.slice av vs.length capv, .slice ab body.length capb] 25 := ⟨(Keep.refl _ _).drew, (hk2.blk hB1 (by simp)).drew⟩
  generalize w2.drew = w3 at *
  refine dp 0 ?_
  refine dp 1 ?_
  refine dp 2 ?_
  refine dp 4 ?_
  refine dp 5 ?_
  refine dr_with 3 63 (fun σ' w' => ∃ vv, VarsV (fun b => b2 + 1 ≤ b ∧ b < w'.heap.size) w' vv vs ∧ (∃ a m c, vv = .slice a m c) ∧ (Keep [] w2 w' ∧ Blk w' b1 [.slice av vs.length capv, .slice ab body.length capb] 25) ∧ Sub [(2, .pointer (some ⟨b2, 0, none⟩)), (7, vv), (9, .slice ab body.length capb)] σ') ?_ ?_
  · rintro σ' w5 ⟨vv, hvv, ⟨a, m, c, rfl⟩, hS5, hsub⟩
    refine dr_sub hsub ?_
    refine dr_op 6 rfl (by decide +kernel) rfl rfl (opTo_call rfl rfl rfl rfl (by decide +kernel) ((ownList_ret _ body (Nat.lt_succ_self _) hsz (hb.keep (hkw2.tr hS5.1) hF.stays) (hF.keep (hkw2.tr hS5.1))).mono ?_))
    rintro v6 w6 ⟨⟨g, ts, hA, her, hC, hX⟩, hk6⟩
    refine ⟨fun _ => ⟨hS5.1.tr hk6, hk6.blk hS5.2 (by simp)⟩, ?_⟩
    obtain ⟨a', cap', rfl⟩ := hA.form
    refine dr_any 7 _ rfl (by decide +kernel) rfl rfl (fun w => val_build _ rfl rfl (built_prog _ _ _ _ _ _) w) ?_
    refine dr_op 8 rfl (by decide +kernel) rfl rfl (opTo_storeN _ rfl rfl rfl rfl (by kernel_rfl) ((hS5.1.tr hk6).blk hB2 (by simp)) (by simp [progZ]) (by intro u hu; simp at hu; rcases hu with rfl | rfl <;> rfl) ?_)
    intro w7 hs7 hk7 hB27
    refine ⟨fun h => absurd h (by simp), ?_⟩
    refine dr_done (by decide +kernel) ?_
    rw [splice_whole (by rfl)] at hB27
    have hb2w : w.heap.size ≤ b2 := by omega
    have hb2l : b2 < w5.heap.size := by have := hS5.1.size; omega
    refine rn_ret Tryd.func7 (.inr (.inr (.inl ⟨_, _, _, rfl, rfl, blk_loadVar hT hB27 rfl⟩))) ⟨⟨_, _, g, ts, w5.heap.size, rfl, ?_, hA.keepBut hk7 ?_ ?_ (hX.out b2 (.inl hb2l)), her, hC.one, hX.one, fun b hb => ⟨hC.out b (.inl hb), hX.out b (.inl hb)⟩, by omega, by have := hk6.size; omega⟩, ((hkw2.tr hS5.1).tr hk6).trB hk7 hb2w⟩
    · exact ((hvv.keep hk6 (fun k hk => ⟨hk.2, by simp⟩)).keep hk7 (fun k hk => ⟨by have := hk6.size; omega, by simp; omega⟩)).mono fun b hb => ⟨by omega, hb.2⟩
    · have := hC.out b2 (.inl hb2l); omega
    · have := hC.out b2 (.inl hb2l); omega
  intro fin
  have hkw3 := hkw2.tr hS.1
  rcases Nat.eq_zero_or_pos vs.length with h0 | h0
  · have hn : vs = [] := List.eq_nil_of_length_eq_zero h0
    subst hn
    refine dr_op 3 rfl (by decide +kernel) rfl rfl (opTo_app0 35 2 24 rfl rfl rfl (by decide +kernel) ⟨fun _ => hS, ?_⟩)
    exact fin _ _ ⟨_, ⟨none, 0, rfl, by simp, fun h => absurd h (by simp)⟩, ⟨_, _, _, rfl⟩, hS, rfl, rfl, rfl, trivial⟩
  · have hv3 := hv.keep hkw3 hF.stays
    have hget : vs[0]? = some vs[0] := List.getElem?_eq_getElem h0
    obtain ⟨bb, q, cap', hvv, _, _⟩ := hv3.at hget
    cases hvv
    have hone : ∀ u ∈ vs.flatMap vcell, u.oneCell' = true := by
      intro u hu
      obtain ⟨y, _, hy⟩ := List.mem_flatMap.1 hu
      exact vcell_one y u hy
    have hfl : (vs.flatMap vcell).length = vs.length * 2 := flat_length fun p _ => rfl
    refine dr_op 3 rfl (by decide +kernel) rfl rfl (opTo_app (b2 + 1) 35 2 24 [] (vs.flatMap vcell) rfl rfl rfl (by decide +kernel) (Own.nil _ _ _ _) (vars_flat hv3) hfl hone h0 (by unfold maxLen; omega) (by omega) (by have := hS.1.size; omega) ?_)
    intro g4 cap4 w4 ho4 hor4
    have hk4 : Keep [] w3 w4 := by
      rcases hor4 with ⟨h, _⟩ | ⟨_, h, _⟩
      · cases h
      · exact h
    have hS4 := And.intro (hS.1.tr hk4) (hk4.blk hS.2 (by simp))
    refine ⟨fun _ => hS4, ?_⟩
    have hvv : VarsV (fun b => b2 + 1 ≤ b ∧ b < w4.heap.size) w4 (.slice (some ⟨g4, 0, none⟩) (0 + vs.length) cap4) vs := by
      rw [Nat.zero_add, List.nil_append] at ho4
      rw [Nat.zero_add]
      exact vars_of_own ho4
    exact fin _ _ ⟨_, hvv, ⟨_, _, _, rfl⟩, hS4, rfl, rfl, rfl, trivial⟩
end E
end Go.Proofs.YtbojicehfbeepadDoor
