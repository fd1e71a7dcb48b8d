/- Several texts in one: RfD, RfS, RnQ, Bld, PrtL, WrM, WrA. -/
import Derived.Test.YtbojicehfbeepadDoorJ07
import Derived.Test.YtbojicehfbeepadDoorJ03
import Derived.Lib.Builder
import Derived.Lib.AppendStr
import Derived.Lib.UnsafeStr
import Derived.Laws.Externs
import Derived.Test.YtbojicehfbeepadDoorJ05
import Derived.Lib.ItoaLen
import Derived.Test.YtbojicehfbeepadDoorJ06
/- Contracts of the document's sameExpr, sameList. -/
namespace Go.Proofs.YtbojicehfbeepadDoor
set_option maxRecDepth 20000
set_option maxHeartbeats 4000000
namespace E
open Go.Proofs

theorem sameExpr_ret : ∀ (s : Nat) (t : ET), szE t ≤ s → szE t ≤ 100000 → ∀ {F F' : Nat → Prop} {w : World} {cs cs' : List Value} {u : ET}, ExprV F w cs t → ExprV F' w cs' u → In F w → In F' w →
    Ret Tryd.prog 37 [.agg cs.toArray, .agg cs'.toArray] w fun r w' => r = .bool (eqE t u) ∧ Keep [] w w' := by
  intro s
  induction s with
  | zero => intro t ht; have := szE_pos t; omega
  | succ s ih =>
    intro t ht ht3 F F' w cs cs' u h h' hF hF'
    obtain ⟨op, v, n, l⟩ := t
    obtain ⟨op', v', n', l'⟩ := u
    obtain ⟨lv, rfl, hl⟩ := h.inv
    obtain ⟨lv', rfl, hl'⟩ := h'.inv
    obtain ⟨a, ca, rfl⟩ := hl.form
    obtain ⟨b, cb, rfl⟩ := hl'.form
    simp only [szE] at ht ht3
    have hlen := szEs_len l
    refine ret_of 53 Tryd.func37 rfl rfl (by simp) ?_
    refine au ?_
    refine pl_op rfl rfl (opTo_boxN [.int .i64 op, .int .i64 v, .int .i64 n, .slice a l.length ca] rfl rfl rfl ?_)
    intro w1 x1 hx1 hs1 hk1 hX1'
    refine pl_op rfl rfl (opTo_boxN [.int .i64 op', .int .i64 v', .int .i64 n', .slice b l'.length cb] rfl rfl rfl ?_)
    intro w2 x2 hx2 hs2 hk2 hX2
    have hX1 := hk2.blk hX1' (by simp)
    have hk := hk1.tr hk2
    clear hX1' hk1 hk2
    by_cases h1 : op = op'
    · by_cases h2 : v = v'
      · by_cases h3 : n = n'
        · by_cases h4 : l.length = l'.length
          · refine aub ?_
            have heq : eqE (.mk op v n l) (.mk op' v' n' l') = eqEs l l' := by simp [eqE, h1, h2, h3]
            rw [heq]
            refine rn_ind (fun m σ w' => ∃ i : Nat, i ≤ l.length ∧ m = l.length - i ∧ σ = [(2, .pointer (some ⟨x1, 0, none⟩)), (3, .pointer (some ⟨x2, 0, none⟩)), (5, .int .i64 (i : Nat))] ∧ eqEs (l.take i) (l'.take i) = true ∧ Keep [] w2 w') l.length _ ?_ ⟨0, by omega, by omega, rfl, by simp [eqEs], Keep.refl _ _⟩ ?_
            · exact ⟨rfl, rfl, rfl, trivial⟩
            rintro m σ w3 ih2 ⟨i, hi, rfl, rfl, htk, hk3⟩
            refine au ?_
            refine pl_val _ rfl rfl (val_load1 hT rfl rfl rfl ((hk3.blk hX1 (by simp)).cell rfl)) ?_
            refine au ?_
            by_cases hlt : i < l.length
            · refine ye ?_
              refine au ?_
              have hlt2 : i < l'.length := by omega
              have hx : l[i]? = some l[i] := List.getElem?_eq_getElem hlt
              have hy : l'[i]? = some l'[i] := List.getElem?_eq_getElem hlt2
              have hsz := szEs_at hx
              have hsp := eqEs_split h4 hx hy
              have htk2 := eqEs_take h4 hx hy
              rw [htk, Bool.true_and] at hsp htk2
              have hkw3 := hk.tr hk3
              obtain ⟨b1, q1, _, ci, hv1, hF1, hr1, hc1⟩ := hl.at hx
              cases hv1
              obtain ⟨b2, q2, _, cj, hv2, hF2, hr2, hc2⟩ := hl'.at hy
              cases hv2
              refine rn_draw (fun w' => Keep [] w3 w') [] hMix ?_
              have hS : Keep [] w3 w3.drew := (Keep.refl _ _).drew
              generalize w3.drew = w4 at *
              refine tk 0 ?_
              refine dr_val 1 _ rfl (by decide +kernel) rfl rfl (fun w9 hS9 => val_load1 hT rfl rfl rfl (((hk3.tr hS9).blk hX1 (by simp)).cell rfl)) hS ?_
              refine tk 2 ?_
              refine dr_any 3 _ rfl (by decide +kernel) rfl rfl (fun w => val_index i hT rfl rfl rfl rfl rfl hlt w) ?_
              refine dr_val 4 (.agg ci.toArray) rfl (by decide +kernel) rfl rfl (fun w9 hS9 => val_load ci hT rfl rfl (by rw [hc1.length]; rfl) (range_keep hr1 (hkw3.tr hS9) (hF _ hF1) (by simp))) hS ?_
              refine tk 5 ?_
              refine dr_val 6 _ rfl (by decide +kernel) rfl rfl (fun w9 hS9 => val_load1 hT rfl rfl rfl (((hk3.tr hS9).blk hX2 (by simp)).cell rfl)) hS ?_
              refine tk 7 ?_
              refine dr_any 8 _ rfl (by decide +kernel) rfl rfl (fun w => val_index i hT rfl rfl rfl rfl rfl hlt2 w) ?_
              refine dr_val 9 (.agg cj.toArray) rfl (by decide +kernel) rfl rfl (fun w9 hS9 => val_load cj hT rfl rfl (by rw [hc2.length]; rfl) (range_keep hr2 (hkw3.tr hS9) (hF' _ hF2) (by simp))) hS ?_
              refine dr_op 10 rfl (by decide +kernel) rfl rfl (opTo_call rfl rfl rfl rfl (by decide +kernel) ((ih l[i] (by omega) (by omega) (hc1.keep (hkw3.tr hS) hF.stays) (hc2.keep (hkw3.tr hS) hF'.stays) (hF.keep (hkw3.tr hS)) (hF'.keep (hkw3.tr hS))).mono ?_))
              rintro v5 w5 ⟨rfl, hk5⟩
              refine ⟨fun _ => hS.tr hk5, ?_⟩
              refine tk 11 ?_
              refine dr_done (by decide +kernel) ?_
              have hk35 := (hk3.tr hS).tr hk5
              cases hq : eqE l[i] l'[i] with
              | false =>
                refine au ?_
                exact rn_ret Tryd.func37 (.inl ⟨_, rfl, rfl⟩) ⟨by rw [hsp, hq]; rfl, hk.tr hk35⟩
              | true =>
                refine au ?_
                refine pl_num (((i + 1 : Nat) : Int)) rfl rfl rfl rfl rfl (by simp only [ariP]; omega) ?_
                refine au ?_
                refine rn_sub ?_ (ih2 (l.length - (i + 1)) [(2, .pointer (some ⟨x1, 0, none⟩)), (3, .pointer (some ⟨x2, 0, none⟩)), (5, .int .i64 ((i + 1 : Nat) : Int))] w5 (by omega) ⟨i + 1, by omega, rfl, rfl, by rw [htk2, hq], hk35⟩)
                exact ⟨rfl, rfl, rfl, trivial⟩
            · refine nay ?_
              refine au ?_
              rw [List.take_of_length_le (by omega), List.take_of_length_le (by omega)] at htk
              exact rn_ret Tryd.func37 (.inl ⟨_, rfl, rfl⟩) ⟨by rw [htk], hk.tr hk3⟩
          · refine aub ?_
            exact rn_ret Tryd.func37 (.inl ⟨_, rfl, rfl⟩) ⟨by simp [eqE, eqEs_ne h4], hk⟩
        · refine aub ?_
          exact rn_ret Tryd.func37 (.inl ⟨_, rfl, rfl⟩) ⟨by simp [eqE, h3], hk⟩
      · refine aub ?_
        exact rn_ret Tryd.func37 (.inl ⟨_, rfl, rfl⟩) ⟨by simp [eqE, h2], hk⟩
    · refine aub ?_
      exact rn_ret Tryd.func37 (.inl ⟨_, rfl, rfl⟩) ⟨by simp [eqE, h1], hk⟩

theorem sameList_ret : ∀ (s : Nat) (l : List ST), szSs l < s → szSs l ≤ 100000 → ∀ {F F' : Nat → Prop} {w : World} {x y : Value} {l' : List ST}, StmtsV F w x l → StmtsV F' w y l' → In F w → In F' w →
    Ret Tryd.prog 20 [x, y] w fun r w' => r = .bool (eqSs l l') ∧ Keep [] w w' := by
  intro s
  induction s with
  | zero => intro l hl; omega
  | succ s ih =>
    intro l hl hl3 F F' w x y l' h h' hF hF'
    obtain ⟨a, ca, rfl⟩ := h.form
    obtain ⟨b, cb, rfl⟩ := h'.form
    have hlen := szSs_len l
    refine ret_of 97 Tryd.func20 rfl rfl (by simp) ?_
    refine au ?_
    by_cases hn : l.length = l'.length
    · refine nay ?_
      refine au ?_
      refine rn_ind (fun m σ w' => ∃ i : Nat, i ≤ l.length ∧ m = l.length - i ∧ σ = [(0, .slice a l.length ca), (1, .slice b l'.length cb), (5, .int .i64 (i : Nat))] ∧ eqSs (l.take i) (l'.take i) = true ∧ Keep [] w w') l.length _ ?_ ⟨0, by omega, by omega, rfl, by simp [eqSs], Keep.refl _ _⟩ ?_
      · exact ⟨rfl, rfl, rfl, trivial⟩
      rintro m σ w2 ih2 ⟨i, hi, rfl, rfl, htk, hk2⟩
      refine au ?_
      by_cases hlt : i < l.length
      · refine ye ?_
        refine au ?_
        have hlt2 : i < l'.length := by omega
        have hx : l[i]? = some l[i] := List.getElem?_eq_getElem hlt
        have hy : l'[i]? = some l'[i] := List.getElem?_eq_getElem hlt2
        have hsz := szSs_at hx
        obtain ⟨op, v, e, f, lb, lo, hs⟩ : ∃ op v e f lb lo, l[i] = ST.mk op v e f lb lo := by cases l[i]; exact ⟨_, _, _, _, _, _, rfl⟩
        obtain ⟨op', v', e', f', lb', lo', hs'⟩ : ∃ op v e f lb lo, l'[i] = ST.mk op v e f lb lo := by cases l'[i]; exact ⟨_, _, _, _, _, _, rfl⟩
        rw [hs] at hx hsz
        rw [hs'] at hy
        simp only [szS] at hsz
        have hsp := eqSs_split hn hx hy
        have htk2 := eqSs_take hn hx hy
        rw [htk, Bool.true_and] at hsp htk2
        obtain ⟨b1, q1, _, ce, cf, bv, ov, hv1, hA⟩ := (h.keep hk2 hF.stays).stmtAt hx
        cases hv1
        obtain ⟨b2, q2, _, ce', cf', bv', ov', hv2, hB⟩ := (h'.keep hk2 hF'.stays).stmtAt hy
        cases hv2
        have hFA2 := hF.keep hk2
        have hFB2 := hF'.keep hk2
        refine rn_draw (fun w' => Keep [] w2 w') [] hMix ?_
        have hS : Keep [] w2 w2.drew := (Keep.refl _ _).drew
        generalize w2.drew = w3 at *
        refine dr_with 0 1208925819614629174706175 (fun σ' w' => ∃ d : Bool, d = ((((((!(op == op')) || !(v == v')) || !eqE e e') || !eqE f f') || !eqSs lb lb') || !eqSs lo lo') ∧ Keep [] w2 w' ∧ Sub ([(0, .slice (some ⟨b1, q1, none⟩) l.length ca), (1, .slice (some ⟨b2, q2, none⟩) l'.length cb), (5, .int .i64 (i : Nat)), (96, .bool d)]) σ') ?_ ?_
        · rintro σ' w5 ⟨d, hd, hS, hsub⟩
          refine dr_sub hsub ?_
          refine dr_done (by decide +kernel) ?_
          have hdq : d = !eqS (.mk op v e f lb lo) (.mk op' v' e' f' lb' lo') := by
            rw [hd]
            simp only [eqS]
            cases (op == op') <;> cases (v == v') <;> cases eqE e e' <;> cases eqE f f' <;> cases eqSs lb lb' <;> cases eqSs lo lo' <;> rfl
          cases d with
          | true =>
            refine au ?_
            refine rn_ret Tryd.func20 (.inl ⟨_, rfl, rfl⟩) ⟨?_, hk2.tr hS⟩
            have hq : eqS (.mk op v e f lb lo) (.mk op' v' e' f' lb' lo') = false := by
              revert hdq
              cases eqS (.mk op v e f lb lo) (.mk op' v' e' f' lb' lo') <;> simp
            rw [hsp, hq]
            rfl
          | false =>
            refine au ?_
            refine pl_num (((i + 1 : Nat) : Int)) rfl rfl rfl rfl rfl (by simp only [ariP]; omega) ?_
            refine au ?_
            have hq : eqS (.mk op v e f lb lo) (.mk op' v' e' f' lb' lo') = true := by
              revert hdq
              cases eqS (.mk op v e f lb lo) (.mk op' v' e' f' lb' lo') <;> simp
            refine rn_sub ?_ (ih2 (l.length - (i + 1)) [(0, .slice (some ⟨b1, q1, none⟩) l.length ca), (1, .slice (some ⟨b2, q2, none⟩) l'.length cb), (5, .int .i64 ((i + 1 : Nat) : Int))] w5 (by omega) ⟨i + 1, by omega, rfl, rfl, by rw [htk2, hq], hk2.tr hS⟩)
            exact ⟨rfl, rfl, rfl, trivial⟩
        intro f5
        refine dr_with 13 147573952589676412927 (fun σ' w' => ∃ d : Bool, d = (((((!(op == op')) || !(v == v')) || !eqE e e') || !eqE f f') || !eqSs lb lb') ∧ Keep [] w2 w' ∧ Sub ([(0, .slice (some ⟨b1, q1, none⟩) l.length ca), (1, .slice (some ⟨b2, q2, none⟩) l'.length cb), (5, .int .i64 (i : Nat)), (83, .bool d)]) σ') ?_ ?_
        · rintro σ' w5 ⟨d, hd, hS, hsub⟩
          refine dr_sub hsub ?_
          cases d with
          | true =>
            refine dr_not 67 rfl (by decide +kernel) rfl rfl ?_
            refine dr_not 68 rfl (by decide +kernel) rfl rfl ?_
            refine dr_not 69 rfl (by decide +kernel) rfl rfl ?_
            refine dr_not 70 rfl (by decide +kernel) rfl rfl ?_
            refine dr_not 71 rfl (by decide +kernel) rfl rfl ?_
            refine dr_not 72 rfl (by decide +kernel) rfl rfl ?_
            refine dr_not 73 rfl (by decide +kernel) rfl rfl ?_
            refine dr_not 74 rfl (by decide +kernel) rfl rfl ?_
            refine dr_not 75 rfl (by decide +kernel) rfl rfl ?_
            refine dr_not 76 rfl (by decide +kernel) rfl rfl ?_
            refine dr_not 77 rfl (by decide +kernel) rfl rfl ?_
            refine dr_not 78 rfl (by decide +kernel) rfl rfl ?_
            refine tk 79 ?_
            exact f5 _ _ ⟨_, by rw [← hd]; rfl, hS, rfl, rfl, rfl, rfl, trivial⟩
          | false =>
            refine tk 67 ?_
            refine tk 68 ?_
            refine dr_any 69 _ rfl (by decide +kernel) rfl rfl (fun w => val_index i hT rfl rfl rfl rfl rfl hlt w) ?_
            refine tk 70 ?_
            refine dr_val 71 _ rfl (by decide +kernel) rfl rfl (fun w9 hS9 => val_load1 hT rfl rfl rfl (hA.keep hS9 hFA2.stays).co) hS ?_
            refine tk 72 ?_
            refine tk 73 ?_
            refine dr_any 74 _ rfl (by decide +kernel) rfl rfl (fun w => val_index i hT rfl rfl rfl rfl rfl hlt2 w) ?_
            refine tk 75 ?_
            refine dr_val 76 _ rfl (by decide +kernel) rfl rfl (fun w9 hS9 => val_load1 hT rfl rfl rfl (hB.keep hS9 hFB2.stays).co) hS ?_
            refine dr_op 77 rfl (by decide +kernel) rfl rfl (opTo_call rfl rfl rfl rfl (by decide +kernel) ((ih lo (by omega) (by omega) (hA.keep hS hFA2.stays).ho (hB.keep hS hFB2.stays).ho (hFA2.keep hS) (hFB2.keep hS)).mono ?_))
            rintro v6 w6 ⟨rfl, hk6⟩
            replace hS := hS.tr hk6
            refine ⟨fun _ => hS, ?_⟩
            refine tk 78 ?_
            refine tk 79 ?_
            exact f5 _ _ ⟨_, by rw [← hd]; rfl, hS, rfl, rfl, rfl, rfl, trivial⟩
        intro f4
        clear f5
        refine dr_with 27 9007199254740991 (fun σ' w' => ∃ d : Bool, d = ((((!(op == op')) || !(v == v')) || !eqE e e') || !eqE f f') ∧ Keep [] w2 w' ∧ Sub ([(0, .slice (some ⟨b1, q1, none⟩) l.length ca), (1, .slice (some ⟨b2, q2, none⟩) l'.length cb), (5, .int .i64 (i : Nat)), (69, .bool d)]) σ') ?_ ?_
        · rintro σ' w5 ⟨d, hd, hS, hsub⟩
          refine dr_sub hsub ?_
          cases d with
          | true =>
            refine dr_not 53 rfl (by decide +kernel) rfl rfl ?_
            refine dr_not 54 rfl (by decide +kernel) rfl rfl ?_
            refine dr_not 55 rfl (by decide +kernel) rfl rfl ?_
            refine dr_not 56 rfl (by decide +kernel) rfl rfl ?_
            refine dr_not 57 rfl (by decide +kernel) rfl rfl ?_
            refine dr_not 58 rfl (by decide +kernel) rfl rfl ?_
            refine dr_not 59 rfl (by decide +kernel) rfl rfl ?_
            refine dr_not 60 rfl (by decide +kernel) rfl rfl ?_
            refine dr_not 61 rfl (by decide +kernel) rfl rfl ?_
            refine dr_not 62 rfl (by decide +kernel) rfl rfl ?_
            refine dr_not 63 rfl (by decide +kernel) rfl rfl ?_
            refine dr_not 64 rfl (by decide +kernel) rfl rfl ?_
            refine tk 65 ?_
            refine tk 66 ?_
            exact f4 _ _ ⟨_, by rw [← hd]; rfl, hS, rfl, rfl, rfl, rfl, trivial⟩
          | false =>
            refine tk 53 ?_
            refine tk 54 ?_
            refine dr_any 55 _ rfl (by decide +kernel) rfl rfl (fun w => val_index i hT rfl rfl rfl rfl rfl hlt w) ?_
            refine tk 56 ?_
            refine dr_val 57 _ rfl (by decide +kernel) rfl rfl (fun w9 hS9 => val_load1 hT rfl rfl rfl (hA.keep hS9 hFA2.stays).cb) hS ?_
            refine tk 58 ?_
            refine tk 59 ?_
            refine dr_any 60 _ rfl (by decide +kernel) rfl rfl (fun w => val_index i hT rfl rfl rfl rfl rfl hlt2 w) ?_
            refine tk 61 ?_
            refine dr_val 62 _ rfl (by decide +kernel) rfl rfl (fun w9 hS9 => val_load1 hT rfl rfl rfl (hB.keep hS9 hFB2.stays).cb) hS ?_
            refine dr_op 63 rfl (by decide +kernel) rfl rfl (opTo_call rfl rfl rfl rfl (by decide +kernel) ((ih lb (by omega) (by omega) (hA.keep hS hFA2.stays).hb (hB.keep hS hFB2.stays).hb (hFA2.keep hS) (hFB2.keep hS)).mono ?_))
            rintro v6 w6 ⟨rfl, hk6⟩
            replace hS := hS.tr hk6
            refine ⟨fun _ => hS, ?_⟩
            refine tk 64 ?_
            refine tk 65 ?_
            refine tk 66 ?_
            exact f4 _ _ ⟨_, by rw [← hd]; rfl, hS, rfl, rfl, rfl, rfl, trivial⟩
        intro f3
        clear f4
        refine dr_with 41 549755813887 (fun σ' w' => ∃ d : Bool, d = (((!(op == op')) || !(v == v')) || !eqE e e') ∧ Keep [] w2 w' ∧ Sub ([(0, .slice (some ⟨b1, q1, none⟩) l.length ca), (1, .slice (some ⟨b2, q2, none⟩) l'.length cb), (5, .int .i64 (i : Nat)), (55, .bool d)]) σ') ?_ ?_
        · rintro σ' w5 ⟨d, hd, hS, hsub⟩
          refine dr_sub hsub ?_
          cases d with
          | true =>
            refine dr_not 39 rfl (by decide +kernel) rfl rfl ?_
            refine dr_not 40 rfl (by decide +kernel) rfl rfl ?_
            refine dr_not 41 rfl (by decide +kernel) rfl rfl ?_
            refine dr_not 42 rfl (by decide +kernel) rfl rfl ?_
            refine dr_not 43 rfl (by decide +kernel) rfl rfl ?_
            refine dr_not 44 rfl (by decide +kernel) rfl rfl ?_
            refine dr_not 45 rfl (by decide +kernel) rfl rfl ?_
            refine dr_not 46 rfl (by decide +kernel) rfl rfl ?_
            refine dr_not 47 rfl (by decide +kernel) rfl rfl ?_
            refine dr_not 48 rfl (by decide +kernel) rfl rfl ?_
            refine dr_not 49 rfl (by decide +kernel) rfl rfl ?_
            refine dr_not 50 rfl (by decide +kernel) rfl rfl ?_
            refine tk 51 ?_
            refine tk 52 ?_
            exact f3 _ _ ⟨_, by rw [← hd]; rfl, hS, rfl, rfl, rfl, rfl, trivial⟩
          | false =>
            refine tk 39 ?_
            refine tk 40 ?_
            refine dr_any 41 _ rfl (by decide +kernel) rfl rfl (fun w => val_index i hT rfl rfl rfl rfl rfl hlt w) ?_
            refine tk 42 ?_
            refine dr_val 43 (.agg cf.toArray) rfl (by decide +kernel) rfl rfl (fun w9 hS9 => val_load cf hT rfl rfl (by rw [hA.hf.length]; rfl) (hA.keep hS9 hFA2.stays).rf) hS ?_
            refine tk 44 ?_
            refine tk 45 ?_
            refine dr_any 46 _ rfl (by decide +kernel) rfl rfl (fun w => val_index i hT rfl rfl rfl rfl rfl hlt2 w) ?_
            refine tk 47 ?_
            refine dr_val 48 (.agg cf'.toArray) rfl (by decide +kernel) rfl rfl (fun w9 hS9 => val_load cf' hT rfl rfl (by rw [hB.hf.length]; rfl) (hB.keep hS9 hFB2.stays).rf) hS ?_
            refine dr_op 49 rfl (by decide +kernel) rfl rfl (opTo_call rfl rfl rfl rfl (by decide +kernel) ((sameExpr_ret _ f (Nat.le_refl _) (by omega) (hA.keep hS hFA2.stays).hf (hB.keep hS hFB2.stays).hf (hFA2.keep hS) (hFB2.keep hS)).mono ?_))
            rintro v6 w6 ⟨rfl, hk6⟩
            replace hS := hS.tr hk6
            refine ⟨fun _ => hS, ?_⟩
            refine tk 50 ?_
            refine tk 51 ?_
            refine tk 52 ?_
            exact f3 _ _ ⟨_, by rw [← hd]; rfl, hS, rfl, rfl, rfl, rfl, trivial⟩
        intro f2
        clear f3
        refine dr_with 55 33554431 (fun σ' w' => ∃ d : Bool, d = ((!(op == op')) || !(v == v')) ∧ Keep [] w2 w' ∧ Sub ([(0, .slice (some ⟨b1, q1, none⟩) l.length ca), (1, .slice (some ⟨b2, q2, none⟩) l'.length cb), (5, .int .i64 (i : Nat)), (41, .bool d)]) σ') ?_ ?_
        · rintro σ' w5 ⟨d, hd, hS, hsub⟩
          refine dr_sub hsub ?_
          cases d with
          | true =>
            refine dr_not 25 rfl (by decide +kernel) rfl rfl ?_
            refine dr_not 26 rfl (by decide +kernel) rfl rfl ?_
            refine dr_not 27 rfl (by decide +kernel) rfl rfl ?_
            refine dr_not 28 rfl (by decide +kernel) rfl rfl ?_
            refine dr_not 29 rfl (by decide +kernel) rfl rfl ?_
            refine dr_not 30 rfl (by decide +kernel) rfl rfl ?_
            refine dr_not 31 rfl (by decide +kernel) rfl rfl ?_
            refine dr_not 32 rfl (by decide +kernel) rfl rfl ?_
            refine dr_not 33 rfl (by decide +kernel) rfl rfl ?_
            refine dr_not 34 rfl (by decide +kernel) rfl rfl ?_
            refine dr_not 35 rfl (by decide +kernel) rfl rfl ?_
            refine dr_not 36 rfl (by decide +kernel) rfl rfl ?_
            refine tk 37 ?_
            refine tk 38 ?_
            exact f2 _ _ ⟨_, by rw [← hd]; rfl, hS, rfl, rfl, rfl, rfl, trivial⟩
          | false =>
            refine tk 25 ?_
            refine tk 26 ?_
            refine dr_any 27 _ rfl (by decide +kernel) rfl rfl (fun w => val_index i hT rfl rfl rfl rfl rfl hlt w) ?_
            refine tk 28 ?_
            refine dr_val 29 (.agg ce.toArray) rfl (by decide +kernel) rfl rfl (fun w9 hS9 => val_load ce hT rfl rfl (by rw [hA.he.length]; rfl) (hA.keep hS9 hFA2.stays).re) hS ?_
            refine tk 30 ?_
            refine tk 31 ?_
            refine dr_any 32 _ rfl (by decide +kernel) rfl rfl (fun w => val_index i hT rfl rfl rfl rfl rfl hlt2 w) ?_
            refine tk 33 ?_
            refine dr_val 34 (.agg ce'.toArray) rfl (by decide +kernel) rfl rfl (fun w9 hS9 => val_load ce' hT rfl rfl (by rw [hB.he.length]; rfl) (hB.keep hS9 hFB2.stays).re) hS ?_
            refine dr_op 35 rfl (by decide +kernel) rfl rfl (opTo_call rfl rfl rfl rfl (by decide +kernel) ((sameExpr_ret _ e (Nat.le_refl _) (by omega) (hA.keep hS hFA2.stays).he (hB.keep hS hFB2.stays).he (hFA2.keep hS) (hFB2.keep hS)).mono ?_))
            rintro v6 w6 ⟨rfl, hk6⟩
            replace hS := hS.tr hk6
            refine ⟨fun _ => hS, ?_⟩
            refine tk 36 ?_
            refine tk 37 ?_
            refine tk 38 ?_
            exact f2 _ _ ⟨_, by rw [← hd]; rfl, hS, rfl, rfl, rfl, rfl, trivial⟩
        intro f1
        clear f2
        refine tk 0 ?_
        refine tk 1 ?_
        refine dr_any 2 _ rfl (by decide +kernel) rfl rfl (fun w => val_index i hT rfl rfl rfl rfl rfl hlt w) ?_
        refine tk 3 ?_
        refine dr_val 4 _ rfl (by decide +kernel) rfl rfl (fun w9 hS9 => val_load1 hT rfl rfl rfl (hA.keep hS9 hFA2.stays).cop) hS ?_
        refine tk 5 ?_
        refine tk 6 ?_
        refine dr_any 7 _ rfl (by decide +kernel) rfl rfl (fun w => val_index i hT rfl rfl rfl rfl rfl hlt2 w) ?_
        refine tk 8 ?_
        refine dr_val 9 _ rfl (by decide +kernel) rfl rfl (fun w9 hS9 => val_load1 hT rfl rfl rfl (hB.keep hS9 hFB2.stays).cop) hS ?_
        by_cases hop : op = op'
        · refine dno 10 ?_
          refine tk 11 ?_
          refine tk 12 ?_
          refine tk 13 ?_
          refine dr_any 14 _ rfl (by decide +kernel) rfl rfl (fun w => val_index i hT rfl rfl rfl rfl rfl hlt w) ?_
          refine tk 15 ?_
          refine dr_val 16 _ rfl (by decide +kernel) rfl rfl (fun w9 hS9 => val_load1 hT rfl rfl rfl (hA.keep hS9 hFA2.stays).cv) hS ?_
          refine tk 17 ?_
          refine tk 18 ?_
          refine dr_any 19 _ rfl (by decide +kernel) rfl rfl (fun w => val_index i hT rfl rfl rfl rfl rfl hlt2 w) ?_
          refine tk 20 ?_
          refine dr_val 21 _ rfl (by decide +kernel) rfl rfl (fun w9 hS9 => val_load1 hT rfl rfl rfl (hB.keep hS9 hFB2.stays).cv) hS ?_
          refine dr_any 22 (.bool (!(v == v'))) rfl (by decide +kernel) rfl rfl (fun w => val_int .i64 _ _ _ rfl rfl rfl (by simp only [intOp]; rfl) w) ?_
          refine tk 23 ?_
          refine tk 24 ?_
          exact f1 _ _ ⟨_, by simp [hop], hS, rfl, rfl, rfl, rfl, trivial⟩
        · refine dye 10 ?_
          refine tk 11 ?_
          refine dr_not 12 rfl (by decide +kernel) rfl rfl ?_
          refine dr_not 13 rfl (by decide +kernel) rfl rfl ?_
          refine dr_not 14 rfl (by decide +kernel) rfl rfl ?_
          refine dr_not 15 rfl (by decide +kernel) rfl rfl ?_
          refine dr_not 16 rfl (by decide +kernel) rfl rfl ?_
          refine dr_not 17 rfl (by decide +kernel) rfl rfl ?_
          refine dr_not 18 rfl (by decide +kernel) rfl rfl ?_
          refine dr_not 19 rfl (by decide +kernel) rfl rfl ?_
          refine dr_not 20 rfl (by decide +kernel) rfl rfl ?_
          refine dr_not 21 rfl (by decide +kernel) rfl rfl ?_
          refine dr_not 22 rfl (by decide +kernel) rfl rfl ?_
          refine tk 23 ?_
          refine tk 24 ?_
          exact f1 _ _ ⟨_, by simp [hop], hS, rfl, rfl, rfl, rfl, trivial⟩
      · refine nay ?_
        refine au ?_
        rw [List.take_of_length_le (by omega), List.take_of_length_le (by omega)] at htk
        exact rn_ret Tryd.func20 (.inl ⟨_, rfl, rfl⟩) ⟨by rw [htk], hk2⟩
    · refine ye ?_
      refine au ?_
      exact rn_ret Tryd.func20 (.inl ⟨_, rfl, rfl⟩) ⟨by rw [eqSs_ne hn], Keep.refl _ _⟩
end E
end Go.Proofs.YtbojicehfbeepadDoor

/- Contract of the document's Same. -/
namespace Go.Proofs.YtbojicehfbeepadDoor
set_option maxRecDepth 20000
set_option maxHeartbeats 4000000
namespace E
open Go.Proofs

theorem refSame_ret {F F' : Nat → Prop} {w : World} {x y : Value} {vs vs' : List VarT} {body body' : List ST} (h : ProgV F w x vs body) (h' : ProgV F' w y vs' body') (hF : In F w) (hF' : In F' w) (h30 : vs.length ≤ 100000) (hsz : szSs body ≤ 100000) :
    Ret Tryd.prog 10 [x, y] w fun r w' => r = .bool (eqP vs body vs' body') ∧ Keep [] w w' := by
  obtain ⟨vv, bv, rfl, hv, hb⟩ := h
  obtain ⟨vv', bv', rfl, hv', hb'⟩ := h'
  obtain ⟨av, capv, rfl⟩ := hv.form
  obtain ⟨ab, capb, rfl⟩ := hb.form
  obtain ⟨av', capv', rfl⟩ := hv'.form
  obtain ⟨ab', capb', rfl⟩ := hb'.form
  refine ret_of 39 Tryd.func10 rfl rfl (by simp) ?_
  refine au ?_
  refine pl_op rfl rfl (opTo_boxN [.slice av vs.length capv, .slice ab body.length capb] rfl rfl rfl ?_)
  intro w1 p1 hp1 hs1 hk1 hB1'
  refine pl_op rfl rfl (opTo_boxN [.slice av' vs'.length capv', .slice ab' body'.length capb'] rfl rfl rfl ?_)
  intro w2 p2 hp2 hs2 hk2 hB2
  have hB1 := hk2.blk hB1' (by simp)
  have hk := hk1.tr hk2
  clear hB1' hk1 hk2
  unfold eqP
  by_cases hn : vs.length = vs'.length
  · refine aub ?_
    refine pl_op rfl rfl (opTo_call rfl rfl rfl rfl (by decide +kernel) ((sameList_ret _ body (Nat.lt_succ_self _) hsz (hb.keep hk hF.stays) (hb'.keep hk hF'.stays) (hF.keep hk) (hF'.keep hk)).mono ?_))
    rintro v3 w3 ⟨rfl, hk3⟩
    have hk3w := hk.tr hk3
    cases hq : eqSs body body' with
    | false =>
      refine au ?_
      exact rn_ret Tryd.func10 (.inl ⟨_, rfl, rfl⟩) ⟨by simp, hk3w⟩
    | true =>
      rw [Bool.and_true]
      refine au ?_
      refine rn_ind (fun m σ w' => ∃ i : Nat, i ≤ vs.length ∧ m = vs.length - i ∧ σ = [(2, .pointer (some ⟨p1, 0, none⟩)), (3, .pointer (some ⟨p2, 0, none⟩)), (5, .int .i64 (i : Nat))] ∧ eqVs (vs.take i) (vs'.take i) = true ∧ Keep [] w2 w') vs.length _ ?_ ⟨0, by omega, by omega, rfl, by simp [eqVs], hk3⟩ ?_
      · exact ⟨rfl, rfl, rfl, trivial⟩
      rintro m σ w4 ih ⟨i, hi, rfl, rfl, heq, hk4⟩
      have hk4w := hk.tr hk4
      refine au ?_
      refine pl_val _ rfl rfl (val_load1 hT rfl rfl rfl ((hk4.blk hB1 (by simp)).cell rfl)) ?_
      refine au ?_
      by_cases hlt : i < vs.length
      · refine ye ?_
        refine au ?_
        have hx : vs[i]? = some vs[i] := List.getElem?_eq_getElem hlt
        have hy : vs'[i]? = some (vs'[i]'(by omega)) := List.getElem?_eq_getElem (by omega)
        obtain ⟨b1, q1, _, hvv, hF1, hr1⟩ := hv.at hx
        cases hvv
        obtain ⟨b2, q2, _, hvv, hF2, hr2⟩ := hv'.at hy
        cases hvv
        have hsp := eqVs_split hn hx hy
        have htk := eqVs_take hn hx hy
        rw [heq, Bool.true_and] at hsp htk
        generalize vs[i] = u at *
        generalize vs'[i]'(by omega) = z at *
        obtain ⟨us, uz⟩ := u
        obtain ⟨zs, zz⟩ := z
        refine rn_draw (fun w' => Keep [] w4 w') [] hMix ?_
        have hS : Keep [] w4 w4.drew := (Keep.refl _ _).drew
        generalize w4.drew = w5 at *
        refine tk 0 ?_
        refine dr_val 1 _ rfl (by decide +kernel) rfl rfl (fun w9 hS9 => val_load1 hT rfl rfl rfl (((hk4.tr hS9).blk hB1 (by simp)).cell rfl)) hS ?_
        refine tk 2 ?_
        refine dr_any 3 _ rfl (by decide +kernel) rfl rfl (fun w => val_index i hT rfl rfl rfl rfl rfl hlt w) ?_
        refine dr_val 4 (.agg #[.string us, .int .i64 uz]) rfl (by decide +kernel) rfl rfl (fun w9 hS9 => val_load (vcell (us, uz)) hT rfl rfl rfl (range_keep hr1 (hk4w.tr hS9) (hF _ hF1) (by simp))) hS ?_
        refine tk 5 ?_
        refine dr_val 6 _ rfl (by decide +kernel) rfl rfl (fun w9 hS9 => val_load1 hT rfl rfl rfl (((hk4.tr hS9).blk hB2 (by simp)).cell rfl)) hS ?_
        refine tk 7 ?_
        refine dr_any 8 _ rfl (by decide +kernel) rfl rfl (fun w => val_index i hT rfl rfl rfl rfl rfl (by omega) w) ?_
        refine dr_val 9 (.agg #[.string zs, .int .i64 zz]) rfl (by decide +kernel) rfl rfl (fun w9 hS9 => val_load (vcell (zs, zz)) hT rfl rfl rfl (range_keep hr2 (hk4w.tr hS9) (hF' _ hF2) (by simp))) hS ?_
        refine dr_any 10 (.bool (!(eqV (us, uz) (zs, zz)))) rfl (by decide +kernel) rfl rfl (fun w => val_nePair us zs uz zz _ (by decide +kernel) rfl rfl rfl rfl w) ?_
        refine dr_done (by decide +kernel) ?_
        cases hqv : eqV (us, uz) (zs, zz) with
        | false =>
          refine au ?_
          exact rn_ret Tryd.func10 (.inl ⟨_, rfl, rfl⟩) ⟨by rw [hsp, hqv]; rfl, hk4w.tr hS⟩
        | true =>
          refine au ?_
          refine pl_num (((i + 1 : Nat) : Int)) rfl rfl rfl rfl rfl (by simp only [ariP]; omega) ?_
          refine au ?_
          refine rn_sub ?_ (ih (vs.length - (i + 1)) [(2, .pointer (some ⟨p1, 0, none⟩)), (3, .pointer (some ⟨p2, 0, none⟩)), (5, .int .i64 ((i + 1 : Nat) : Int))] w5 (by omega) ⟨i + 1, by omega, rfl, rfl, by rw [htk, hqv], hk4.tr hS⟩)
          exact ⟨rfl, rfl, rfl, trivial⟩
      · refine nay ?_
        refine au ?_
        rw [List.take_of_length_le (by omega), List.take_of_length_le (by omega)] at heq
        exact rn_ret Tryd.func10 (.inl ⟨_, rfl, rfl⟩) ⟨by rw [heq], hk4w⟩
  · refine aub ?_
    refine rn_ret Tryd.func10 (.inl ⟨_, rfl, rfl⟩) ⟨?_, hk⟩
    have : eqVs vs vs' = false := by
      cases he : eqVs vs vs' with
      | false => rfl
      | true => exact absurd (eqVs_len he) hn
    rw [this]
    rfl
end E
end Go.Proofs.YtbojicehfbeepadDoor

/- The walk of RenderApart. -/
namespace Go.Proofs.YtbojicehfbeepadDoor
set_option maxRecDepth 20000
set_option maxHeartbeats 4000000
namespace E
open Go.Proofs

theorem renderApart_ret (hP : PrC) {w : World} {x y : Value} {vs vs' : List VarT} {body body' : List ST} (h : ProgV (fun b => b < w.heap.size) w x vs body) (hlong : longSs body) (h' : ProgV (fun b => b < w.heap.size) w y vs' body') (hlong' : longSs body') (hw : Lt w) :
    Ret Tryd.prog 4 [x, y] w fun r w' => r = .bool true ∧ Keep [] w w' := by
  have hF : In (fun b => b < w.heap.size) w := fun c hc => hc
  have hh := h
  have hh' := h'
  obtain ⟨vv, bv, rfl, hv, hb⟩ := h
  obtain ⟨av, capv, rfl⟩ := hv.form
  obtain ⟨ab, capb, rfl⟩ := hb.form
  obtain ⟨vv', bv', rfl, hv', hb'⟩ := h'
  obtain ⟨av', capv', rfl⟩ := hv'.form
  obtain ⟨ab', capb', rfl⟩ := hb'.form
  refine ret_of 44 Tryd.func4 rfl rfl (by simp) ?_
  refine au ?_
  refine pl_op rfl rfl (opTo_boxN [.slice av vs.length capv, .slice ab body.length capb] rfl rfl rfl ?_)
  intro w0 p hp0 hs0 hk0 hp00
  refine pl_op rfl rfl (opTo_boxN [.slice av' vs'.length capv', .slice ab' body'.length capb'] rfl rfl rfl ?_)
  intro w1 q hq0 hs1 hk1' hq1
  have hk1 := hk0.tr hk1'
  have hp1 := hk1'.blk hp00 (by simp)
  refine au ?_
  refine pl_op rfl rfl (opTo_call (fst := []) (cap := []) rfl rfl rfl rfl (by decide +kernel) ((renderBegun_ret hP (hw.keep hk1)).mono ?_))
  rintro r w2 ⟨rfl, hk2⟩
  have hk02 := hk1.tr hk2
  have hp2 := hk2.blk hp1 (by simp)
  have hq2 := hk2.blk hq1 (by simp)
  refine au ?_
  refine pl_val _ rfl rfl (val_load [.slice av vs.length capv, .slice ab body.length capb] hT rfl rfl rfl (hp2.range (by rfl))) ?_
  refine pl_op rfl rfl (opTo_call (fst := []) (cap := []) rfl rfl rfl rfl (by decide +kernel) ((great_ret (hh.keep hk02 hF.stays) (hF.keep hk02)).mono ?_))
  rintro r w3 ⟨⟨g, rfl, hg⟩, hk3⟩
  have hk03 := hk02.tr hk3
  have hp3 := hk3.blk hp2 (by simp)
  have hq3 := hk3.blk hq2 (by simp)
  cases g with
  | true =>
    refine au ?_
    exact rn_ret Tryd.func4 (.inl ⟨_, rfl, rfl⟩) ⟨rfl, hk03⟩
  | false =>
    obtain ⟨h30, hnm, hsz⟩ := hg rfl
    have hnm1 : ∀ y ∈ vs, y.1.size ≤ 100000 := fun y hy => by have := hnm y hy; omega
    refine au ?_
    refine pl_val _ rfl rfl (val_load [.slice av' vs'.length capv', .slice ab' body'.length capb'] hT rfl rfl rfl (hq3.range (by rfl))) ?_
    refine pl_op rfl rfl (opTo_call (fst := []) (cap := []) rfl rfl rfl rfl (by decide +kernel) ((great_ret (hh'.keep hk03 hF.stays) (hF.keep hk03)).mono ?_))
    rintro r w4 ⟨⟨g, rfl, hg'⟩, hk4⟩
    have hk04 := hk03.tr hk4
    have hp4 := hk4.blk hp3 (by simp)
    have hq4 := hk4.blk hq3 (by simp)
    cases g with
    | true =>
      refine au ?_
      exact rn_ret Tryd.func4 (.inl ⟨_, rfl, rfl⟩) ⟨rfl, hk04⟩
    | false =>
      obtain ⟨h30', hnm', hsz'⟩ := hg' rfl
      have hnm2 : ∀ y ∈ vs', y.1.size ≤ 100000 := fun y hy => by have := hnm' y hy; omega
      refine au ?_
      refine pl_val _ rfl rfl (val_load [.slice av vs.length capv, .slice ab body.length capb] hT rfl rfl rfl (hp4.range (by rfl))) ?_
      refine pl_op rfl rfl (opTo_call (fst := []) (cap := []) rfl rfl rfl rfl (by decide +kernel) ((hP.print (hh.keep hk04 hF.stays) (hF.keep hk04) (hw.keep hk04) (by omega) hnm1 (by omega) hlong).mono ?_))
      rintro r w5 ⟨rfl, hk5⟩
      obtain ⟨X, hX⟩ : ∃ X, X = printedOf vs body := ⟨_, rfl⟩
      rw [← hX]
      obtain ⟨⟨fa, fb⟩, hfl⟩ : ∃ f, f = fltX X := ⟨_, rfl⟩
      rw [← hfl]
      refine au ?_
      refine pl_op rfl rfl (opTo_allocN _ rfl zero_fault ?_)
      intro w6 b6 hb60 hs6 hk6 hf6
      refine au ?_
      refine pl_op rfl rfl (opTo_storeN [.int .i64 fa, .int .i64 fb] rfl rfl rfl rfl size_fault hf6 (by simp) (one_fault _ _) ?_)
      intro w7 hs7 hk7 hf7
      rw [splice_whole (by rfl)] at hf7
      have hk47 : Keep [] w4 w7 := hk5.tr (hk6.trB hk7 (by omega))
      have hk07 := hk04.tr hk47
      have hp7 := hk47.blk hp4 (by simp)
      have hq7 := hk47.blk hq4 (by simp)
      refine au ?_
      refine pl_val _ rfl rfl (val_load [.slice av' vs'.length capv', .slice ab' body'.length capb'] hT rfl rfl rfl (hq7.range (by rfl))) ?_
      refine pl_op rfl rfl (opTo_call (fst := []) (cap := []) rfl rfl rfl rfl (by decide +kernel) ((hP.print (hh'.keep hk07 hF.stays) (hF.keep hk07) (hw.keep hk07) (by omega) hnm2 (by omega) hlong').mono ?_))
      rintro r w8 ⟨rfl, hk8⟩
      obtain ⟨Y, hY⟩ : ∃ Y, Y = printedOf vs' body' := ⟨_, rfl⟩
      rw [← hY]
      obtain ⟨⟨ga, gb⟩, hgl⟩ : ∃ f, f = fltX Y := ⟨_, rfl⟩
      rw [← hgl]
      refine au ?_
      refine pl_op rfl rfl (opTo_allocN _ rfl zero_fault ?_)
      intro w9 b8 hb80 hs9 hk9 hg9
      refine au ?_
      refine pl_op rfl rfl (opTo_storeN [.int .i64 ga, .int .i64 gb] rfl rfl rfl rfl size_fault hg9 (by simp) (one_fault _ _) ?_)
      intro w10 hs10 hk10 hg10
      rw [splice_whole (by rfl)] at hg10
      have hk710 : Keep [] w7 w10 := hk8.tr (hk9.trB hk10 (by omega))
      have hk010 := hk07.tr hk710
      have hp10 := hk710.blk hp7 (by simp)
      have hq10 := hk710.blk hq7 (by simp)
      have hf10 := hk710.blk hf7 (by simp)
      refine au ?_
      refine pl_val _ rfl rfl (val_load1 hT rfl rfl rfl (hf10.cell rfl)) ?_
      by_cases hz : fa = 0
      · refine nay ?_
        refine au ?_
        refine pl_val _ rfl rfl (val_load1 hT rfl rfl rfl (hg10.cell rfl)) ?_
        by_cases hz' : ga = 0
        · obtain ⟨l, hXc⟩ : ∃ l, X = .ok l := by
            cases hc : X with
            | ok l => exact ⟨l, rfl⟩
            | error e =>
              have h1 := printed_err (hX.symm.trans hc)
              rw [hc] at hfl
              have h2 : (fa, fb) = e := hfl
              rw [← h2] at h1
              exact absurd hz h1
          obtain ⟨l', hYc⟩ : ∃ l, Y = .ok l := by
            cases hc : Y with
            | ok l => exact ⟨l, rfl⟩
            | error e =>
              have h1 := printed_err (hY.symm.trans hc)
              rw [hc] at hgl
              have h2 : (ga, gb) = e := hgl
              rw [← h2] at h1
              exact absurd hz' h1
          have hap := print_apart (hX.symm.trans hXc) (hY.symm.trans hYc) hlong hlong'
          rw [hXc, hYc]
          refine nay ?_
          refine au ?_
          refine pl_val _ rfl rfl (val_eqS l l' (l == l') rfl rfl rfl rfl w10) ?_
          refine pl_val _ rfl rfl (val_load [.slice av vs.length capv, .slice ab body.length capb] hT rfl rfl rfl (hp10.range (by rfl))) ?_
          refine pl_val _ rfl rfl (val_load [.slice av' vs'.length capv', .slice ab' body'.length capb'] hT rfl rfl rfl (hq10.range (by rfl))) ?_
          refine pl_op rfl rfl (opTo_call (fst := []) (cap := []) rfl rfl rfl rfl (by decide +kernel) ((refSame_ret (hh.keep hk010 hF.stays) (hh'.keep hk010 hF.stays) (hF.keep hk010) (hF.keep hk010) (by omega) (by omega)).mono ?_))
          rintro r w11 ⟨rfl, hk11⟩
          refine pl_val _ rfl rfl (val_eqB (l == l') (eqP vs body vs' body') true (by decide +kernel) rfl rfl rfl (by rw [hap]; simp) w11) ?_
          refine au ?_
          exact rn_ret Tryd.func4 (.inl ⟨_, rfl, rfl⟩) ⟨rfl, hk010.tr hk11⟩
        · refine ye ?_
          refine au ?_
          exact rn_ret Tryd.func4 (.inl ⟨_, rfl, rfl⟩) ⟨rfl, hk010⟩
      · refine ye ?_
        refine au ?_
        exact rn_ret Tryd.func4 (.inl ⟨_, rfl, rfl⟩) ⟨rfl, hk010⟩
end E
end Go.Proofs.YtbojicehfbeepadDoor

/- Laws of single operations that strings.Builder's methods take: a pointer held against nil and against itself, turned to a bare pointer and back, abi.NoEscape; a string appended to bytes; SliceData and String of bytes. -/
namespace Go.Proofs.YtbojicehfbeepadDoor
set_option maxRecDepth 20000
set_option maxHeartbeats 4000000
namespace E
open Go.Proofs

section
variable {P : Program} {T : Tbl} {n : Nat} {σ : Env} {o : Oper} {w : World} {v : Value}

theorem val_nilNil {t t' : Nat} {x : Operand} (h : isPtr P t = true) (ho : o.op = .binOp .eql t x (.const (.pointer none)) t') (hx : ev σ x = some (.pointer none)) (w : World) : Val P n σ o w (.bool true) := by
  intro ac ha
  unfold isPtr at h
  split at h
  · rename_i e hu
    have he : ∀ d, (Op.equalIn (d + 1) t (.pointer none) (.pointer none)).run P w = .ok true w := fun d => by
      simp [Op.equalIn, run_underlying hu]
    have he' : (Op.equal t (.pointer none) (.pointer none)).run P w = .ok true w := he 9999
    have hc : ac.eval (.const (.pointer none)) = .pointer none := rfl
    simp [execOp, ho, ha.eval hx, hc, eqGuard, binOp, he']
  · cases h

def ptrSz (P : Program) (t : Nat) : Bool :=
  match P.underlying t with
  | some (.pointer e) => match P.info? e with
    | some i => i.size != 0
    | none => false
  | _ => false
theorem val_neSelf {t t' : Nat} {x y : Operand} {ad : Addr} (h : ptrSz P t = true) (ho : o.op = .binOp .neq t x y t') (hx : ev σ x = some (.pointer (some ad))) (hy : ev σ y = some (.pointer (some ad))) (w : World) : Val P n σ o w (.bool false) := by
  intro ac ha
  unfold ptrSz at h
  split at h
  · rename_i e hu
    split at h
    · rename_i i hi
      have he := Lib.run_neq_ptr_same (P := P) w ad hu hi
      simp [execOp, ho, ha.eval hx, ha.eval hy, eqGuard, he]
    · cases h
  · cases h

def isUns (P : Program) (t : Nat) : Bool :=
  match P.underlying t with
  | some .unsafePointer => true
  | _ => false
theorem isUns_spec {t : Nat} (h : isUns P t = true) : P.underlying t = some .unsafePointer := by
  unfold isUns at h
  split at h
  · assumption
  · cases h

theorem val_toUnsafe {s d : Nat} {x : Operand} {b i : Nat} {L : List Value} {e : TypeId} (h : ptrSz P s = true) (hd : isUns P d = true) (ho : o.op = .convert s d x) (hx : ev σ x = some (.pointer (some ⟨b, i, none⟩))) (hb : Blk w b L e) (hi : i < L.length) : Val P n σ o w (.pointer (some ⟨b, i, none⟩)) := by
  intro ac ha
  unfold ptrSz at h
  split at h
  · rename_i u hu
    split at h
    · rename_i j hj
      have hne : j.size ≠ 0 := by simpa using h
      have hb' := hb
      unfold Blk at hb'
      have hr := Lib.run_to_unsafe (P := P) w ⟨b, i, none⟩ hu (isUns_spec hd) hj hne (e := e) (cells := L.length) (by simp [World.shape?, hb']) hi
      simp [execOp, ho, ha.eval hx, hr]
    · cases h
  · cases h

def liesOk (P : Program) (d e cells i : Nat) : Bool :=
  match P.underlying d with
  | some (.pointer u) => (match P.info? u with | some _ => true | none => false) && liesAt P P.depth e (cells / P.cellsOf e) i u 1
  | _ => false
theorem val_fromUnsafe {s d : Nat} {x : Operand} {b i : Nat} {L : List Value} {e : TypeId} (h : liesOk P d e L.length i = true) (hs : isUns P s = true) (ho : o.op = .convert s d x) (hx : ev σ x = some (.pointer (some ⟨b, i, none⟩))) (hb : Blk w b L e) : Val P n σ o w (.pointer (some ⟨b, i, none⟩)) := by
  intro ac ha
  unfold liesOk at h
  split at h
  · rename_i u hu
    simp only [Bool.and_eq_true] at h
    obtain ⟨h1, h2⟩ := h
    split at h1
    · rename_i j hj
      have hb' := hb
      unfold Blk at hb'
      have hr := Lib.run_from_unsafe (P := P) w ⟨b, i, none⟩ (isUns_spec hs) hu hj (e := e) (cells := L.length) (by simp [World.shape?, hb']) h2
      simp [execOp, ho, ha.eval hx, hr]
    · cases h1
  · cases h

/-- abi.NoEscape: the pointer as it is. -/
theorem val_noEscape {c : Call} {x : Operand} {g : Nat} {fn : Func} {v : Value} (ho : o.op = .call c) (hc : c.callee = .value x) (hx : ev σ x = some (.func (.func g) #[] #[])) (hv : evs σ c.args.toList = some [v])
    (hf : P.funcs[g]? = some fn) (hname : (fn.name == "runtime.NumGoroutine") = false) (hb : fn.body.isNone = true) (hn : Extern.findNext fn = none) (he : Extern.find fn = some Extern.AbiNoEscape.same) (w : World) : Val P n σ o w v := by
  intro ac ha
  have hargs := map_eq_toArray (ha.evals hv)
  have hr := run_callFunc_extern hf hname hb hn he #[v] w
  rw [Lib.run_noEscape] at hr
  simp only [Result.andThen] at hr
  simp [execOp, ho, resolve, hc, hargs, ha.eval hx, Deferred.ofValue, invoke, hr]

/-- A slice of bytes. -/
def byteSl (P : Program) (t e : Nat) : Bool :=
  match P.underlying t with
  | some (.slice e') => e' == e && (match P.info? e with
    | some i => i.size == 1 && i.bytes == 1 && (match i.zero with | some (.int .u8 z) => z == 0 | _ => false)
    | none => false)
  | _ => false
theorem byteSl_spec {t e : Nat} (h : byteSl P t e = true) : ∃ i, P.underlying t = some (.slice e) ∧ P.info? e = some i ∧ i.zero = some (.int .u8 0) ∧ i.size = 1 ∧ i.bytes = 1 := by
  unfold byteSl at h
  split at h
  · rename_i e' hu
    simp only [Bool.and_eq_true, beq_iff_eq] at h
    obtain ⟨rfl, h⟩ := h
    split at h
    · rename_i i hi
      simp only [Bool.and_eq_true, beq_iff_eq] at h
      obtain ⟨⟨h1, h2⟩, h3⟩ := h
      split at h3
      · rename_i z hz
        have : z = 0 := by simpa using h3
        subst this
        exact ⟨i, hu, hi, hz, h1, h2⟩
      · cases h3
    · cases h
  · cases h

theorem opTo_appStr {t u : TypeId} {s x : Operand} {ln : Nat} {K : Value → World → Prop} (base e : Nat) (xs : List Value) (l : List UInt8)
    (ho : o.op = .call { callee := .builtin .append, args := #[s, x], argTypes := #[t, u] }) (hs : ev σ s = some v) (hx : ev σ x = some (.string (str l)))
    (hP : byteSl P t e = true) (hu : isStr P u = true) (hown : w.ownsRow base e 1 v ln xs) (hb : ln + l.length ≤ 100000000) (hbase : base ≤ w.heap.size)
    (hK : ∀ v' w', w'.ownsRow base e 1 v' (ln + l.length) (xs ++ Lib.byteCells l) → w.grownBy w' v.ownBlock → K v' w') : OpTo P n σ o w K := by
  obtain ⟨i, h1, h2, h3, h4, h5⟩ := byteSl_spec hP
  have hsz := str_size l
  obtain ⟨v', w', hr, g1, g2, _⟩ := Lib.run_append_own_string (P := P) w base t u o.type e i h1 (isStr_spec hu) h2 h3 h4 h5 v ln xs hown (str l) (by unfold maxLen; omega) (by omega) hbase
  rw [hsz, Lib.strCells_eq, str_list] at g1
  refine opTo_run (w' := w') (v := v') (fun a ha => ?_) (hK _ _ g1 g2)
  simp [execOp, ho, resolve, invoke, builtin, ha.eval hs, ha.eval hx, hr]

/-- SliceData of a slice with room. -/
theorem val_sliceData {t : TypeId} {x : Operand} {ad : Addr} {ln cap : Nat} (ho : o.op = .call { callee := .builtin .unsafeSliceData, args := #[x], argTypes := #[t] }) (hx : ev σ x = some (.slice (some ad) ln cap)) (hc : cap ≠ 0) (w : World) : Val P n σ o w (.pointer (some ad)) := by
  intro ac ha
  have hr := Lib.run_unsafeSliceData_row (P := P) w #[t] o.type ad ln cap hc
  simp [execOp, ho, resolve, invoke, builtin, ha.eval hx, hr]
theorem val_sliceDataNil {t : TypeId} {x : Operand} {ln cap : Nat} (ho : o.op = .call { callee := .builtin .unsafeSliceData, args := #[x], argTypes := #[t] }) (hx : ev σ x = some (.slice none ln cap)) (w : World) : Val P n σ o w (.pointer none) := by
  intro ac ha
  have hr := Lib.run_unsafeSliceData_nil (P := P) w #[t] o.type ln cap
  simp [execOp, ho, resolve, invoke, builtin, ha.eval hx, hr]
theorem val_uStr0 {t u : TypeId} {x y : Operand} {q : Option Addr} (ho : o.op = .call { callee := .builtin .unsafeString, args := #[x, y], argTypes := #[t, u] }) (hx : ev σ x = some (.pointer q)) (hy : ev σ y = some (.int .i64 0)) (w : World) : Val P n σ o w (.string (str [])) := by
  intro ac ha
  have hr := Lib.run_unsafeString_none (P := P) w t u o.type q
  simp [execOp, ho, resolve, invoke, builtin, ha.eval hx, ha.eval hy, hr]
  rfl
def bytePtr (P : Program) (t e : Nat) : Bool :=
  match P.underlying t with
  | some (.pointer e') => e' == e && P.cellsOf e == 1
  | _ => false
/-- The string of a row of bytes: they are frozen in their row. -/
theorem opTo_uStr {t u : TypeId} {x y : Operand} {g e cap ln base : Nat} {K : Value → World → Prop} (l : List UInt8) (ho : o.op = .call { callee := .builtin .unsafeString, args := #[x, y], argTypes := #[t, u] }) (hx : ev σ x = some (.pointer (some ⟨g, 0, none⟩))) (hy : ev σ y = some (.int .i64 (l.length : Nat)))
    (hP : bytePtr P t e = true) (h0 : l ≠ []) (hown : w.ownsRow base e 1 (.slice (some ⟨g, 0, none⟩) ln cap) l.length (Lib.byteCells l)) (hK : K (.string (str l)) (w.freeze ⟨g, 0, none⟩ l.length)) : OpTo P n σ o w K := by
  unfold bytePtr at hP
  split at hP
  · rename_i e' hu
    simp only [Bool.and_eq_true, beq_iff_eq] at hP
    obtain ⟨rfl, hc⟩ := hP
    have hl0 : l.length ≠ 0 := by simpa using h0
    have hcells := hown.cells (g := g) rfl
    rcases hown.2 with ⟨hv, _⟩ | ⟨g', cap', cur, hv, _, hg, hnc, hcm, hcs, _⟩
    · cases hv
    · cases hv
      have hr := Lib.run_unsafeString_row (P := P) w t u o.type e' hu hc g cur.size (by simp [World.shape?, hg]) l h0 (by omega) (by unfold maxLen at hcm; omega) (fun j x hx => hcells j (.int .u8 x.toNat) (by simp [Lib.byteCells, hx]))
      refine opTo_run (w' := w.freeze ⟨g, 0, none⟩ l.length) (v := .string (str l)) (fun a ha => ?_) hK
      simp [execOp, ho, resolve, invoke, builtin, ha.eval hx, ha.eval hy, hr]
      rfl
  · cases hP
end

theorem byteCells_one (l : List UInt8) : ∀ u ∈ Lib.byteCells l, u.oneCell' = true := by
  intro u hu
  simp only [Lib.byteCells, List.mem_map] at hu
  obtain ⟨x, _, rfl⟩ := hu
  rfl
theorem keep_freeze {w0 w : World} {g m : Nat} (h : Keep [] w0 w) (hg : w0.heap.size ≤ g) : Keep [] w0 (w.freeze ⟨g, 0, none⟩ m) :=
  have hb := Lib.below_freeze (h.below fun k hk => by cases hk) (p := ⟨g, 0, none⟩) hg m
  ⟨hb.os, hb.tape, hb.output, hb.size, fun k hk _ => hb.block k hk⟩
end E
end Go.Proofs.YtbojicehfbeepadDoor

/- What a tree must be to be printed; how long its print is. -/
namespace Go.Proofs.YtbojicehfbeepadDoor
set_option maxRecDepth 20000
set_option maxHeartbeats 4000000
namespace E
open Go.Proofs Go.Lib

mutual
def prE (nv : Nat) : ET → Prop
  | .mk op v n l => 1 ≤ op ∧ op ≤ 8 ∧ (op = 2 ∨ op = 3 → 0 ≤ v ∧ v.toNat < nv) ∧ in64 n ∧ prEs nv l
def prEs (nv : Nat) : List ET → Prop
  | [] => True
  | t :: r => prE nv t ∧ prEs nv r
end
mutual
def prS (nv : Nat) : ST → Prop
  | .mk op v e f b o => 1 ≤ op ∧ op ≤ 7 ∧ (needV op = true → 0 ≤ v ∧ v.toNat < nv) ∧ (needE op = true → prE nv e) ∧ (needF op = true → prE nv f) ∧ prSs nv b ∧ prSs nv o
def prSs (nv : Nat) : List ST → Prop
  | [] => True
  | t :: r => prS nv t ∧ prSs nv r
end
theorem prEs_at {nv : Nat} : ∀ {l : List ET} {i : Nat} {t : ET}, prEs nv l → l[i]? = some t → prE nv t
  | [], _, _, _, h => by simp at h
  | x :: r, 0, t, h, e => by simp at e; subst e; exact h.1
  | x :: r, i + 1, t, h, e => by simp at e; exact prEs_at h.2 e
theorem prSs_at {nv : Nat} : ∀ {l : List ST} {i : Nat} {t : ST}, prSs nv l → l[i]? = some t → prS nv t
  | [], _, _, _, h => by simp at h
  | x :: r, 0, t, h, e => by simp at e; subst e; exact h.1
  | x :: r, i + 1, t, h, e => by simp at e; exact prSs_at h.2 e
mutual
theorem chkE_pr {nv : Nat} : ∀ (t : ET) {d k k' : Nat}, chkE nv t d k = .ok k' → longE t → prE nv t
  | .mk op v n l, d, k, k', h, hl => by
    obtain ⟨_, h1, k1, h2⟩ := chkE_inv h
    obtain ⟨a, b, _, _, c, _⟩ := ownE_inv h1
    exact ⟨a, b, c, hl.1, chkEs_pr l h2 hl.2⟩
theorem chkEs_pr {nv : Nat} : ∀ (l : List ET) {d k k' : Nat}, chkEs nv l d k = .ok k' → longEs l → prEs nv l
  | [], _, _, _, _, _ => trivial
  | t :: r, d, k, k', h, hl => by
    obtain ⟨⟨k1, h1⟩, k2, h2⟩ := chkEs_inv h
    exact ⟨chkE_pr t h1 hl.1, chkEs_pr r h2 hl.2⟩
end
mutual
theorem chkS_pr {nv : Nat} : ∀ (t : ST) {d k k' : Nat}, chkS nv t d k = .ok k' → longSt t → prS nv t
  | .mk op v e f b o, d, k, k', h, hl => by
    obtain ⟨_, h1, h2, h3, ⟨k1, k2, h4⟩, k3, k4, h5⟩ := chkS_inv h
    obtain ⟨a, a', _, _, _, _, c, _⟩ := ownS_inv h1
    exact ⟨a, a', c, fun hn => (let ⟨_, _, hc⟩ := h2 hn; chkE_pr e hc hl.1), fun hn => (let ⟨_, _, hc⟩ := h3 hn; chkE_pr f hc hl.2.1), chkSs_pr b h4 hl.2.2.1, chkSs_pr o h5 hl.2.2.2⟩
theorem chkSs_pr {nv : Nat} : ∀ (l : List ST) {d k k' : Nat}, chkSs nv l d k = .ok k' → longSs l → prSs nv l
  | [], _, _, _, _, _ => trivial
  | t :: r, d, k, k', h, hl => by
    obtain ⟨⟨k1, h1⟩, k2, h2⟩ := chkSs_inv h
    exact ⟨chkS_pr t h1 hl.1, chkSs_pr r h2 hl.2⟩
end

/-! ### Lengths -/
def nm8 (vs : List VarT) : Prop := ∀ y ∈ vs, y.1.size ≤ 8
theorem nameV_len {vs : List VarT} (h : nm8 vs) (v : Nat) : (nameV vs v).length ≤ 8 := by
  unfold nameV
  rw [List.getD_eq_getElem?_getD]
  cases hv : vs[v]? with
  | none => simp
  | some y =>
    have := h y (List.mem_of_getElem? hv)
    rw [Option.getD_some, size_toList]
    exact this
theorem wordT_len (k : Nat) : (wordT k).length ≤ 8 := by
  unfold wordT
  repeat' split
  all_goals decide
theorem verbT_len (k : Nat) : (verbT k).length ≤ 8 := by
  unfold verbT
  repeat' split
  all_goals decide
mutual
theorem printE_len {vs : List VarT} {nv : Nat} (hn : nm8 vs) : ∀ (t : ET), prE nv t → (printE vs t).length + 1 ≤ 64 * szE t
  | .mk op v n l, h => by
    obtain ⟨_, _, _, h4, h5⟩ := h
    have i1 := printEs_len hn l h5
    have i2 := wordT_len op.toNat
    have i3 := nameV_len hn v.toNat
    have i4 := itoa_length_le n h4.1 h4.2
    simp only [printE, szE]
    split <;> split <;> simp only [List.length_cons, List.length_append, List.length_nil] <;> omega
theorem printEs_len {vs : List VarT} {nv : Nat} (hn : nm8 vs) : ∀ (l : List ET), prEs nv l → (printEs vs l).length ≤ 64 * szEs l
  | [], _ => by simp [printEs]
  | t :: r, h => by
    have i1 := printE_len hn t h.1
    have i2 := printEs_len hn r h.2
    simp only [printEs, szEs, List.length_cons, List.length_append]
    omega
end
mutual
theorem printS_len {vs : List VarT} {nv : Nat} (hn : nm8 vs) : ∀ (t : ST), prS nv t → (printS vs t).length + 1 ≤ 64 * szS t
  | .mk op v e f b o, h => by
    obtain ⟨_, _, _, h4, h5, h6, h7⟩ := h
    have i1 := printSs_len hn b false h6
    have i1' := printSs_len hn o false h7
    have i2 := verbT_len op.toNat
    have i3 := nameV_len hn v.toNat
    have i4 : (if needE op = true then 32 :: printE vs e else []).length ≤ 64 * szE e := by
      split
      · rename_i hh
        have := printE_len hn e (h4 hh)
        simp only [List.length_cons]; omega
      · simp
    have i5 : (if needF op = true then 32 :: printE vs f else []).length ≤ 64 * szE f := by
      split
      · rename_i hh
        have := printE_len hn f (h5 hh)
        simp only [List.length_cons]; omega
      · simp
    have i6 : (if needV op = true then 32 :: nameV vs v.toNat else []).length ≤ 9 := by
      split
      · simp only [List.length_cons]; omega
      · simp
    have i7 : (if needB op = true then 32 :: 40 :: (printSs vs false b ++ [41]) else []).length ≤ 64 * szSs b + 3 := by
      split
      · simp only [List.length_cons, List.length_append, List.length_nil]; omega
      · simp
    have i8 : (if needO op = true then 32 :: 40 :: (printSs vs false o ++ [41]) else []).length ≤ 64 * szSs o + 3 := by
      split
      · simp only [List.length_cons, List.length_append, List.length_nil]; omega
      · simp
    simp only [printS, szS, List.length_cons, List.length_append, List.length_nil]
    omega
theorem printSs_len {vs : List VarT} {nv : Nat} (hn : nm8 vs) : ∀ (l : List ST) (c : Bool), prSs nv l → (printSs vs c l).length ≤ 64 * szSs l
  | [], _, _ => by simp [printSs]
  | t :: r, c, h => by
    have i1 := printS_len hn t h.1
    have i2 := printSs_len hn r true h.2
    cases c <;> simp [printSs, szSs, List.length_append] <;> omega
end
/-! ### One more -/
theorem printEs_snoc (vs : List VarT) (t : ET) : ∀ (l : List ET), printEs vs (l ++ [t]) = printEs vs l ++ 32 :: printE vs t
  | [] => by simp [printEs]
  | x :: r => by simp only [List.cons_append, printEs, printEs_snoc vs t r, List.append_assoc]
theorem printSs_snoc (vs : List VarT) (t : ST) : ∀ (l : List ST) (c : Bool), printSs vs c (l ++ [t]) = printSs vs c l ++ ((if c || decide (0 < l.length) then [32] else []) ++ printS vs t)
  | [], c => by cases c <;> simp [printSs]
  | x :: r, c => by
    simp only [List.cons_append, printSs, printSs_snoc vs t r true, List.append_assoc]
    cases c <;> simp
theorem printEs_take (vs : List VarT) {l : List ET} {i : Nat} {t : ET} (h : l[i]? = some t) : printEs vs (l.take (i + 1)) = printEs vs (l.take i) ++ 32 :: printE vs t := by
  obtain ⟨hi, rfl⟩ := List.getElem?_eq_some_iff.1 h
  rw [List.take_succ_eq_append_getElem hi, printEs_snoc]
theorem printSs_take (vs : List VarT) {l : List ST} {i : Nat} {t : ST} (h : l[i]? = some t) : printSs vs false (l.take (i + 1)) = printSs vs false (l.take i) ++ ((if 0 < i then [32] else []) ++ printS vs t) := by
  obtain ⟨hi, rfl⟩ := List.getElem?_eq_some_iff.1 h
  rw [List.take_succ_eq_append_getElem hi, printSs_snoc]
  have e : (l.take i).length = i := by simp; omega
  rw [e]
  simp
theorem printB_snoc (vs : List VarT) (t : ST) : ∀ (l : List ST), printB vs (l ++ [t]) = printB vs l ++ (printS vs t ++ [10])
  | [] => by simp [printB]
  | x :: r => by simp only [List.cons_append, printB, printB_snoc vs t r, List.append_assoc]
theorem printB_take (vs : List VarT) {l : List ST} {i : Nat} {t : ST} (h : l[i]? = some t) : printB vs (l.take (i + 1)) = printB vs (l.take i) ++ (printS vs t ++ [10]) := by
  obtain ⟨hi, rfl⟩ := List.getElem?_eq_some_iff.1 h
  rw [List.take_succ_eq_append_getElem hi, printB_snoc]
theorem printV_snoc (x : VarT) : ∀ (l : List VarT), printV (l ++ [x]) = printV l ++ (letT ++ 32 :: (x.1.data.toList ++ 32 :: (itoa x.2 ++ [10])))
  | [] => by simp [printV]
  | y :: r => by simp only [List.cons_append, printV, printV_snoc x r, List.append_assoc]
theorem printV_take {l : List VarT} {i : Nat} {x : VarT} (h : l[i]? = some x) : printV (l.take (i + 1)) = printV (l.take i) ++ (letT ++ 32 :: (x.1.data.toList ++ 32 :: (itoa x.2 ++ [10]))) := by
  obtain ⟨hi, rfl⟩ := List.getElem?_eq_some_iff.1 h
  rw [List.take_succ_eq_append_getElem hi, printV_snoc]
theorem printB_len {vs : List VarT} {nv : Nat} (hn : nm8 vs) : ∀ (l : List ST), prSs nv l → (printB vs l).length ≤ 64 * szSs l
  | [], _ => by simp [printB]
  | t :: r, h => by
    have i1 := printS_len hn t h.1
    have i2 := printB_len hn r h.2
    simp only [printB, szSs, List.length_cons, List.length_append]
    omega
theorem prSs_take {nv : Nat} : ∀ {l : List ST} (i : Nat), prSs nv l → prSs nv (l.take i)
  | [], i, _ => by simp [prSs]
  | x :: r, 0, _ => by simp [prSs]
  | x :: r, i + 1, h => by simp only [List.take_succ_cons]; exact ⟨h.1, prSs_take i h.2⟩
theorem prEs_take {nv : Nat} : ∀ {l : List ET} (i : Nat), prEs nv l → prEs nv (l.take i)
  | [], i, _ => by simp [prEs]
  | x :: r, 0, _ => by simp [prEs]
  | x :: r, i + 1, h => by simp only [List.take_succ_cons]; exact ⟨h.1, prEs_take i h.2⟩
end E
end Go.Proofs.YtbojicehfbeepadDoor

/- Plain mathematics of writing word by word: where blanks stand; what is no bracket. -/
namespace Go.Proofs.YtbojicehfbeepadDoor
set_option maxRecDepth 20000
set_option maxHeartbeats 4000000
namespace E
open Go.Lib

/-- A blank, if one is to stand ahead of the next word. -/
def sp (ap : Bool) : List UInt8 := if ap then [32] else []
abbrev TxS := List UInt8 × Bool
/-- One word more. -/
def wdT (s : TxS) (x : List UInt8) : TxS := (s.1 ++ ((if s.2 && !(x == [41]) then [32] else []) ++ x), !(x == [40]))
theorem wd_open (L : List UInt8) (ap : Bool) : wdT (L, ap) [40] = (L ++ (sp ap ++ [40]), false) := by cases ap <;> rfl
theorem wd_close (L : List UInt8) (ap : Bool) : wdT (L, ap) [41] = (L ++ [41], true) := by cases ap <;> rfl
/-- It is no bracket. -/
def Plain (x : List UInt8) : Prop := x ≠ [40] ∧ x ≠ [41]
theorem wd_word {x : List UInt8} (h : Plain x) (L : List UInt8) (ap : Bool) : wdT (L, ap) x = (L ++ (sp ap ++ x), true) := by
  unfold wdT sp
  have h1 : (x == [40]) = false := by simpa using h.1
  have h2 : (x == [41]) = false := by simpa using h.2
  simp [h1, h2]
theorem plain_word {k : Nat} : Plain (wordT k) := by
  unfold wordT
  repeat' split
  all_goals exact ⟨by decide, by decide⟩
theorem plain_verb {k : Nat} : Plain (verbT k) := by
  unfold verbT
  repeat' split
  all_goals exact ⟨by decide, by decide⟩
theorem plain_itoa (n : Int) : Plain (itoa n) := by
  obtain ⟨c, u, h, hc, _⟩ := itoa_form n
  have := (dig_plain hc).2.1
  constructor <;> (intro h2; rw [h] at h2; injection h2 with h3 _; subst h3; revert this; decide)
theorem plain_name {x : List UInt8} (h : nameB x = true) : Plain x := by
  have h1 := nameB_let h
  constructor <;> (intro h2; subst h2; revert h1; decide)
theorem plain_nameV {vs : List VarT} (hg : GoodV vs) {v : Nat} (hv : v < vs.length) : Plain (nameV vs v) := by
  unfold nameV
  rw [List.getD_eq_getElem?_getD, List.getElem?_eq_getElem hv, Option.getD_some]
  exact plain_name (hg _ (List.getElem_mem hv)).1
theorem wdT_len (s : TxS) (x : List UInt8) : (wdT s x).1.length ≤ s.1.length + x.length + 1 := by
  unfold wdT
  simp only [List.length_append]
  split <;> simp <;> omega
theorem foldl_take {α β : Type} (g : β → α → β) (z : β) {l : List α} {i : Nat} {x : α} (h : l[i]? = some x) : (l.take (i + 1)).foldl g z = g ((l.take i).foldl g z) x := by
  obtain ⟨hi, rfl⟩ := List.getElem?_eq_some_iff.1 h
  rw [List.take_succ_eq_append_getElem hi, List.foldl_append]
  rfl
/-- How long the words are at most, with a blank each. -/
def wsL (xs : List (List UInt8)) : Nat := (xs.map fun x => x.length + 1).sum
theorem fold_len : ∀ (xs : List (List UInt8)) (s : TxS), (xs.foldl wdT s).1.length ≤ s.1.length + wsL xs
  | [], s => by simp [wsL]
  | x :: r, s => by
    have h1 := wdT_len s x
    have h2 := fold_len r (wdT s x)
    simp only [List.foldl_cons, wsL, List.map_cons, List.sum_cons] at h2 ⊢
    omega
theorem wsL_take (xs : List (List UInt8)) (i : Nat) : wsL (xs.take i) ≤ wsL xs := by
  induction xs generalizing i with
  | nil => simp [wsL]
  | cons x r ih =>
    cases i with
    | zero => simp [wsL]
    | succ i =>
      have := ih i
      simp only [List.take_succ_cons, wsL, List.map_cons, List.sum_cons] at this ⊢
      omega
end E
end Go.Proofs.YtbojicehfbeepadDoor

/- The landed writer: how it lies in memory; contracts of strings.Builder's methods at it, of words and of endLine. -/
namespace Go.Proofs.YtbojicehfbeepadDoor
set_option maxRecDepth 20000
set_option maxHeartbeats 4000000
namespace E
open Go.Proofs

abbrev TW : Nat := 65
abbrev TB : Nat := 5

/-- What writing leaves alone: all blocks but those of bytes and of writers. -/
structure Ofs (w w' : World) : Prop where
  size : w.heap.size ≤ w'.heap.size
  blk : ∀ {c : Nat} {L : List Value} {e : TypeId}, Blk w c L e → e ≠ TW → e ≠ TB → Blk w' c L e
theorem Ofs.refl (w : World) : Ofs w w := ⟨Nat.le_refl _, fun h _ _ => h⟩
theorem Ofs.tr {w w' w'' : World} (h : Ofs w w') (h' : Ofs w' w'') : Ofs w w'' := ⟨Nat.le_trans h.size h'.size, fun hb h1 h2 => h'.blk (h.blk hb h1 h2) h1 h2⟩
theorem Ofs.of0 {w w' : World} (h : Keep [] w w') : Ofs w w' := ⟨h.size, fun hb _ _ => h.blk hb (by simp)⟩
theorem Ofs.of {w w' : World} {fp : List Nat} (h : Keep fp w w') (hf : ∀ k ∈ fp, ∃ L e, Blk w k L e ∧ (e = TW ∨ e = TB)) : Ofs w w' :=
  ⟨h.size, fun hb h1 h2 => h.blk hb fun hm => by
    obtain ⟨L, e, hb', he⟩ := hf _ hm
    rcases he with he | he
    · exact Blk.ne hb hb' (fun h => h1 (h.trans he)) rfl
    · exact Blk.ne hb hb' (fun h => h2 (h.trans he)) rfl⟩

/-- The writer at b, over a world w0 in which it was not yet: the bytes L so far; whether a blank is to stand ahead of the next word; its variables. -/
structure Wp (w0 w : World) (b : Nat) (p v : Value) (L : List UInt8) (ap : Bool) (vv : Value) : Prop where
  kp : Keep [] w0 w
  ge : w0.heap.size ≤ b
  bk : Blk w b [p, v, .bool ap, vv] TW
  own : w.ownsRow w0.heap.size TB 1 v L.length (Lib.byteCells L)
  nz : L = [] → v = .slice none 0 0
abbrev selfP (b : Nat) : Value := .pointer (some ⟨b, 0, none⟩)
def Wt (w0 w : World) (b : Nat) (L : List UInt8) (ap : Bool) (vv : Value) : Prop := ∃ p v, Wp w0 w b p v L ap vv ∧ (p = .pointer none ∨ p = selfP b)

theorem neWB : TW ≠ TB := by decide
section
variable {w0 w w1 w2 : World} {b : Nat} {p p' v v' vv : Value} {L L' : List UInt8} {ap ap' : Bool}
theorem wown_ne (h : w.ownsRow w0.heap.size TB 1 v L.length (Lib.byteCells L)) {X : List Value} (hb : Blk w b X TW) : ∀ k, v.ownBlock = some k → k ≠ b := fun k hk e => by
  subst e
  exact Lib.ownBlock_ne h hb neWB hk
theorem Wp.keep0 (h : Wp w0 w b p v L ap vv) (hk : Keep [] w w1) : Wp w0 w1 b p v L ap vv :=
  ⟨h.kp.tr hk, h.ge, hk.blk h.bk (by simp), hk.owns h.own fun k _ => by simp, h.nz⟩
theorem Wt.keep0 (h : Wt w0 w b L ap vv) (hk : Keep [] w w1) : Wt w0 w1 b L ap vv := let ⟨p, v, h, hp⟩ := h; ⟨p, v, h.keep0 hk, hp⟩
theorem Wt.kp (h : Wt w0 w b L ap vv) : Keep [] w0 w := let ⟨_, _, h, _⟩ := h; h.kp
theorem Wp.set (h : Wp w0 w b p v L ap vv) (hk : Keep [b] w w1) (hb : Blk w1 b [p', v, .bool ap', vv] TW) : Wp w0 w1 b p' v L ap' vv ∧ Ofs w w1 :=
  ⟨⟨h.kp.trB hk h.ge, h.ge, hb, hk.owns h.own fun k hk' => by simpa using wown_ne h.own h.bk k hk', h.nz⟩, Ofs.of hk fun k hk' => ⟨[p, v, .bool ap, vv], TW, by rw [List.mem_singleton.1 hk']; exact h.bk, .inl rfl⟩⟩
theorem grown_bk (h : Wp w0 w b p v L ap vv) (hg : w.grownBy w1 v.ownBlock) : Blk w1 b [p, v, .bool ap, vv] TW :=
  (keep_grown hg).blk h.bk fun hm => by
    simp only [Option.mem_toList] at hm
    exact wown_ne h.own h.bk b hm rfl
theorem own_blk (h : w.ownsRow w0.heap.size TB 1 v L.length (Lib.byteCells L)) {k : Nat} (hk : v.ownBlock = some k) : ∃ X, Blk w k X TB := by
  rcases h.2 with ⟨rfl, _⟩ | ⟨g, cap, cur, rfl, _, hg, _⟩
  · simp [Value.ownBlock] at hk
  · simp only [Value.ownBlock, Option.some.injEq] at hk
    subst hk
    exact ⟨cur.toList, by unfold Blk; rw [Array.toArray_toList]; exact hg⟩
theorem Wp.app (h : Wp w0 w b p v L ap vv) (hg : w.grownBy w1 v.ownBlock) (hown : w1.ownsRow w0.heap.size TB 1 v' L'.length (Lib.byteCells L')) (hk : Keep [b] w1 w2) (hb : Blk w2 b [p, v', .bool ap, vv] TW) (h0 : L' ≠ []) : Wp w0 w2 b p v' L' ap vv ∧ Ofs w w2 := by
  have hb1 := grown_bk h hg
  have hkg := keep_grown hg
  refine ⟨⟨(h.kp.trans hkg fun k hk' => .inr ?_).trB hk h.ge, h.ge, hb, hk.owns hown fun k hk' => by simpa using wown_ne hown hb1 k hk', fun e => absurd e h0⟩, ?_⟩
  · simp only [Option.mem_toList] at hk'
    exact (h.own.lt k hk').1
  · refine Ofs.tr (Ofs.of hkg fun k hk' => ?_) (Ofs.of hk fun k hk' => ⟨[p, v, .bool ap, vv], TW, by rw [List.mem_singleton.1 hk']; exact hb1, .inl rfl⟩)
    simp only [Option.mem_toList] at hk'
    obtain ⟨X, hX⟩ := own_blk h.own hk'
    exact ⟨X, TB, hX, .inr rfl⟩
end

theorem size_bp : sizeOk Tryd.prog 58 1 = true := by kernel_rfl
theorem size_bs : sizeOk Tryd.prog 59 1 = true := by kernel_rfl
theorem size_bo : sizeOk Tryd.prog 4 1 = true := by kernel_rfl
theorem slice_byte (c : Int) : sliceCells Tryd.prog 59 1 [(0, .int .u8 c)] = some (TB, [Value.int .u8 c].toArray) := by kernel_rfl
theorem lies_bp : liesOk Tryd.prog 58 TW 4 0 = true := by decide +kernel
theorem one1 {v : Value} (h : v.oneCell' = true) : ∀ u ∈ [v], u.oneCell' = true := by
  intro u hu
  simp only [List.mem_cons, List.not_mem_nil, or_false] at hu
  subst hu
  exact h

section
variable {w0 w : World} {b : Nat} {vv : Value} {L : List UInt8} {ap : Bool}
theorem copyCheck_ret (h : Wt w0 w b L ap vv) : Ret Tryd.prog 63 [.pointer (some ⟨b, 0, none⟩)] w fun r w' => r = .tuple #[] ∧ (∃ v, Wp w0 w' b (selfP b) v L ap vv) ∧ Ofs w w' := by
  obtain ⟨p, v, h, hp⟩ := h
  refine ret_of 20 Tryd.func63 rfl rfl (by simp) ?_
  refine au ?_
  refine pl_val _ rfl rfl (val_load1 hT rfl rfl rfl (h.bk.cell rfl)) ?_
  rcases hp with rfl | rfl
  · refine pl_val _ rfl rfl (val_nilNil (by decide +kernel) rfl rfl w) ?_
    refine au ?_
    refine pl_val _ rfl rfl (val_toUnsafe (by decide +kernel) (by decide +kernel) rfl rfl h.bk (by simp)) ?_
    refine pl_val _ rfl rfl (val_noEscape rfl rfl rfl rfl Tryd.func71 (by kernel_rfl) (by kernel_rfl) (by kernel_rfl) (by kernel_rfl) w) ?_
    refine pl_val _ rfl rfl (val_fromUnsafe lies_bp (by decide +kernel) rfl rfl h.bk) ?_
    refine au ?_
    refine pl_op rfl rfl (opTo_storeN [selfP b] rfl rfl rfl rfl size_bp h.bk (by simp) (one1 rfl) ?_)
    intro w1 hs1 hk1 hb1
    have hb1' : Blk w1 b [selfP b, v, .bool ap, vv] TW := hb1
    obtain ⟨h1, h2⟩ := h.set hk1 hb1'
    refine au ?_
    exact rn_end Tryd.func63 (.inr (.inl ⟨rfl, rfl⟩)) ⟨rfl, ⟨v, h1⟩, h2⟩
  · refine pl_val _ rfl rfl (val_eqNil (by decide +kernel) rfl rfl w) ?_
    refine au ?_
    refine pl_val _ rfl rfl (val_load1 hT rfl rfl rfl (h.bk.cell rfl)) ?_
    refine au ?_
    refine pl_val _ rfl rfl (val_neSelf (by decide +kernel) rfl rfl rfl w) ?_
    refine au ?_
    exact rn_end Tryd.func63 (.inr (.inl ⟨rfl, rfl⟩)) ⟨rfl, ⟨v, h⟩, Ofs.refl _⟩

theorem writeByte_ret (c : UInt8) (ci : Int) (hc : ci = (c.toNat : Nat)) (h : Wt w0 w b L ap vv) (hl : L.length ≤ 90000000) : Ret Tryd.prog 44 [.pointer (some ⟨b, 0, none⟩), .int .u8 ci] w fun _ w' => Wt w0 w' b (L ++ [c]) ap vv ∧ Ofs w w' := by
  subst hc
  refine ret_of 17 Tryd.func44 rfl rfl (by simp) ?_
  refine au ?_
  refine pl_op rfl rfl (opTo_call (fst := []) (cap := []) rfl rfl rfl rfl (by decide +kernel) ((copyCheck_ret h).mono ?_))
  rintro r w1 ⟨rfl, ⟨v, h1⟩, ho1⟩
  refine au ?_
  refine pl_val _ rfl rfl (val_load1 hT rfl rfl rfl (h1.bk.cell rfl)) ?_
  refine au ?_
  refine pl_op rfl rfl (opTo_sliceN TB [.int .u8 (c.toNat : Nat)] rfl rfl (slice_byte _) ?_)
  intro w2 g hg hs2 hk2 hb2
  have h2 := h1.keep0 hk2
  refine pl_op rfl rfl (opTo_append w0.heap.size TB 1 1 (Lib.byteCells L) [.int .u8 (c.toNat : Nat)] rfl rfl rfl (by decide +kernel) (by decide) h2.own (hb2.range rfl) rfl (one1 rfl) (by decide) (by unfold maxLen; omega) (by omega) h2.kp.size ?_)
  intro g3 cap w3 hown3 hgr3 _ _
  have e3 : Lib.byteCells L ++ [.int .u8 (c.toNat : Nat)] = Lib.byteCells (L ++ [c]) := by rw [Lib.byteCells_append]; rfl
  have e4 : L.length + 1 = (L ++ [c]).length := by simp
  rw [e3] at hown3
  have hown3' : w3.ownsRow w0.heap.size TB 1 (.slice (some ⟨g3, 0, none⟩) (L.length + 1) cap) (L ++ [c]).length (Lib.byteCells (L ++ [c])) := by rw [← e4]; exact hown3
  refine au ?_
  refine pl_op rfl rfl (opTo_storeN [.slice (some ⟨g3, 0, none⟩) (L.length + 1) cap] rfl rfl rfl rfl size_bs (grown_bk h2 hgr3) (by simp) (one1 rfl) ?_)
  intro w4 hs4 hk4 hb4
  obtain ⟨h4, ho4⟩ := h2.app hgr3 hown3' hk4 hb4 (by simp)
  refine au ?_
  exact rn_ret Tryd.func44 (.inl ⟨_, rfl, rfl⟩) ⟨⟨_, _, h4, .inr rfl⟩, (ho1.tr (Ofs.of0 hk2)).tr ho4⟩

theorem writeString_ret (l : List UInt8) (h0 : l ≠ []) (h : Wt w0 w b L ap vv) (hl : L.length + l.length ≤ 90000000) : Ret Tryd.prog 45 [.pointer (some ⟨b, 0, none⟩), .string (str l)] w fun _ w' => Wt w0 w' b (L ++ l) ap vv ∧ Ofs w w' := by
  refine ret_of 19 Tryd.func45 rfl rfl (by simp) ?_
  refine au ?_
  refine pl_op rfl rfl (opTo_call (fst := []) (cap := []) rfl rfl rfl rfl (by decide +kernel) ((copyCheck_ret h).mono ?_))
  rintro r w1 ⟨rfl, ⟨v, h1⟩, ho1⟩
  refine au ?_
  refine pl_val _ rfl rfl (val_load1 hT rfl rfl rfl (h1.bk.cell rfl)) ?_
  refine au ?_
  refine pl_op rfl rfl (opTo_appStr w0.heap.size TB (Lib.byteCells L) l rfl rfl rfl (by decide +kernel) (by decide +kernel) h1.own (by omega) h1.kp.size ?_)
  intro v3 w3 hown3 hgr3
  rw [← Lib.byteCells_append, ← List.length_append] at hown3
  have h10 : v3.oneCell' = true ∧ v3.cells = [v3].toArray := by
    rcases hown3.2 with ⟨rfl, _⟩ | ⟨g, cap, cur, rfl, _⟩
    · exact ⟨rfl, rfl⟩
    · exact ⟨rfl, rfl⟩
  refine au ?_
  refine pl_op rfl rfl (opTo_storeN [v3] rfl rfl rfl h10.2 size_bs (grown_bk h1 hgr3) (by simp) (one1 h10.1) ?_)
  intro w4 hs4 hk4 hb4
  obtain ⟨h4, ho4⟩ := h1.app hgr3 hown3 hk4 hb4 (by simp [h0])
  refine au ?_
  refine pl_val _ rfl rfl (val_len l (by decide +kernel) rfl rfl w4) ?_
  refine au ?_
  exact rn_ret Tryd.func45 (.inr (.inr (.inr (.inr ⟨_, _, _, _, rfl, rfl, rfl, rfl⟩)))) ⟨⟨_, _, h4, .inr rfl⟩, ho1.tr ho4⟩

theorem builderString_ret (h : Wt w0 w b L ap vv) : Ret Tryd.prog 29 [.pointer (some ⟨b, 0, none⟩)] w fun r w' => r = .string (str L) ∧ Keep [] w0 w' := by
  obtain ⟨p, v, h, _⟩ := h
  refine ret_of 14 Tryd.func29 rfl rfl (by simp) ?_
  refine auj ?_
  refine rn_seq ?_
  refine rn_plain ?_
  refine auj ?_
  refine rn_seq ?_
  refine rn_draw (fun w' => w' = w.drew) [10] hMix ?_
  have hS : w.drew = w.drew := rfl
  by_cases hL : L = []
  · have hv := h.nz hL
    subst hv
    subst hL
    refine tk 0 ?_
    refine tk 1 ?_
    refine tk 2 ?_
    refine dr_val 3 (.slice none 0 0) rfl (by decide +kernel) rfl rfl (fun w9 hS9 => val_load1 hT rfl rfl rfl (by rw [hS9]; exact h.bk.drew.cell rfl)) hS ?_
    refine dr_any 4 (.pointer none) rfl (by decide +kernel) rfl rfl (fun w => val_sliceDataNil rfl rfl w) ?_
    refine tk 5 ?_
    refine tk 6 ?_
    refine tk 7 ?_
    refine dr_val 8 (.slice none 0 0) rfl (by decide +kernel) rfl rfl (fun w9 hS9 => val_load1 hT rfl rfl rfl (by rw [hS9]; exact h.bk.drew.cell rfl)) hS ?_
    refine tk 9 ?_
    refine dr_any 10 (.string (str [])) rfl (by decide +kernel) rfl rfl (fun w => val_uStr0 rfl rfl rfl w) ?_
    refine tk 11 ?_
    refine dr_done (by decide +kernel) ?_
    refine au ?_
    exact rn_ret Tryd.func29 (.inl ⟨_, rfl, rfl⟩) ⟨rfl, h.kp.drew⟩
  · have hl0 : L.length ≠ 0 := by simpa using hL
    obtain ⟨g, cap, rfl, hc, hge⟩ : ∃ g cap, v = .slice (some ⟨g, 0, none⟩) L.length cap ∧ cap ≠ 0 ∧ w0.heap.size ≤ g := by
      rcases h.own.2 with ⟨_, hz⟩ | ⟨g, cap, cur, hv, hb, _, hnc, _⟩
      · exact absurd hz hl0
      · exact ⟨g, cap, hv, by omega, hb⟩
    refine tk 0 ?_
    refine tk 1 ?_
    refine tk 2 ?_
    refine dr_val 3 (.slice (some ⟨g, 0, none⟩) L.length cap) rfl (by decide +kernel) rfl rfl (fun w9 hS9 => val_load1 hT rfl rfl rfl (by rw [hS9]; exact h.bk.drew.cell rfl)) hS ?_
    refine dr_any 4 (.pointer (some ⟨g, 0, none⟩)) rfl (by decide +kernel) rfl rfl (fun w => val_sliceData rfl rfl hc w) ?_
    refine tk 5 ?_
    refine tk 6 ?_
    refine tk 7 ?_
    refine dr_val 8 (.slice (some ⟨g, 0, none⟩) L.length cap) rfl (by decide +kernel) rfl rfl (fun w9 hS9 => val_load1 hT rfl rfl rfl (by rw [hS9]; exact h.bk.drew.cell rfl)) hS ?_
    refine tk 9 ?_
    refine dr_op 10 rfl (by decide +kernel) rfl rfl (opTo_uStr (e := TB) (base := w0.heap.size) L rfl rfl rfl (by decide +kernel) hL h.own ?_)
    refine ⟨fun h => absurd (by simp) h, ?_⟩
    refine tk 11 ?_
    refine dr_done (by decide +kernel) ?_
    refine au ?_
    exact rn_ret Tryd.func29 (.inl ⟨_, rfl, rfl⟩) ⟨rfl, keep_freeze h.kp.drew hge⟩
end
end E
end Go.Proofs.YtbojicehfbeepadDoor
