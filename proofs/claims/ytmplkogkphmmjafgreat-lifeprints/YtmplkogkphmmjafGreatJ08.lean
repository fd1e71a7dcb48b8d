/- Several texts in one: CmD, BeT, CmK, BeU, BeV, IdK, IdJ, LfK. -/
import Derived.Test.YtmplkogkphmmjafGreatJ06
import Derived.Test.YtmplkogkphmmjafGreatJ07
import Derived.Test.YtmplkogkphmmjafGreatJ04
import Derived.Test.YtmplkogkphmmjafGreatJ03
/- Contracts of the document's instructions: listCode, stmtCode, CodeOf. -/
namespace Go.Proofs.YtmplkogkphmmjafGreat
set_option maxRecDepth 20000
set_option maxHeartbeats 4000000
namespace E
open Go.Proofs

/-- stmtCode does for what is smaller. -/
def StC (vs : List VarT) (bd : List ST) (av ab : Option Addr) (capv capb : Nat) (s : Nat) : Prop := ∀ (t : ST), szS t < s → szS t ≤ 100000 → gdS vs.length t → ∀ {F : Nat → Prop} {w : World} {cs : List Value} {i0 : Nat}, ProgV F w (.agg #[.slice av vs.length capv, .slice ab bd.length capb]) vs bd → StmtV F w cs t → In F w → i0 + 2 * szS t ≤ 1000000 →
    Ret Tryz.prog 82 [.agg #[.slice av vs.length capv, .slice ab bd.length capb], .agg cs.toArray, .int .i64 (i0 : Nat)] w fun r w' => RowI tRI w' w.heap.size r (insS vs t i0) ∧ Keep [] w w'

theorem listCode_ret {vs : List VarT} {bd : List ST} {av ab : Option Addr} {capv capb : Nat} {s : Nat} (hst : StC vs bd av ab capv capb s) (l : List ST) (hls : szSs l < s) (hl3 : szSs l ≤ 100000) (hgd : gdSs vs.length l) {F : Nat → Prop} {w : World} {x : Value} {i0 : Nat} (hp : ProgV F w (.agg #[.slice av vs.length capv, .slice ab bd.length capb]) vs bd) (hE : StmtsV F w x l) (hF : In F w) (hi0 : i0 + 2 * szSs l ≤ 1000000) :
    Ret Tryz.prog 59 [.agg #[.slice av vs.length capv, .slice ab bd.length capb], x, .int .i64 (i0 : Nat)] w fun r w' => RowI tRI w' w.heap.size r (insSs vs l i0) ∧ Keep [] w w' := by
  obtain ⟨a, cap, rfl⟩ := hE.form
  have hlen := szSs_len l
  refine ret_of 28 Tryz.func59 rfl rfl (by simp) ?_
  refine au ?_
  refine pl_op rfl rfl (opTo_boxN [.slice av vs.length capv, .slice ab bd.length capb] rfl rfl rfl ?_)
  intro w2 x1 hx1 hs1 hk hX1
  have hp2 := hp.keep hk hF.stays
  have hE2 := hE.keep hk hF.stays
  have hF2 := hF.keep hk
  have hsz2 : w.heap.size ≤ w2.heap.size := hk.size
  refine au ?_
  refine rn_ind (fun m σ w' => ∃ (i : Nat) (rv : Value), i ≤ l.length ∧ m = l.length - i ∧ σ = [(1, .slice a l.length cap), (2, .int .i64 (i0 : Nat)), (3, .pointer (some ⟨x1, 0, none⟩)), (7, rv), (8, .int .i64 (i : Nat))] ∧ RowI tRI w' w2.heap.size rv (insSs vs (l.take i) i0) ∧ Keep [] w2 w') l.length _ ?_ ⟨0, _, by omega, by omega, rfl, RowI.nil _ _ _, Keep.refl _ _⟩ ?_
  · exact ⟨rfl, rfl, rfl, rfl, rfl, trivial⟩
  rintro m σ w6 ih ⟨i, rv, hi, rfl, rfl, hrow, hk6⟩
  have hX16 := hk6.blk hX1 (by simp)
  refine au ?_
  by_cases hlt : i < l.length
  · refine ye ?_
    have hxi : l[i]? = some l[i] := List.getElem?_eq_getElem hlt
    have hszi := szSs_succ hxi
    have hszt := szSs_take l (i + 1)
    have hl1 := insSs_len vs (l.take i) i0
    have htk := insSs_take vs hxi i0
    obtain ⟨Q, hQ⟩ : ∃ Q, Q = insSs vs (l.take i) i0 := ⟨_, rfl⟩
    rw [← hQ] at hrow hl1 htk
    have hl2 := insS_len vs l[i] (i0 + Q.length)
    obtain ⟨ra, rc, rfl⟩ := hrow.form
    obtain ⟨b1, q1, c1, ci, hv1, hF1, hr1, hc1⟩ := hE2.at hxi
    cases hv1
    refine au ?_
    refine rn_draw (fun w' => Keep [] w6 w') [11] hMix ?_
    have hS : Keep [] w6 w6.drew := (Keep.refl _ _).drew
    generalize w6.drew = w7 at *
    refine tk 0 ?_
    refine dr_val 1 (.agg #[.slice av vs.length capv, .slice ab bd.length capb]) rfl (by decide +kernel) rfl rfl (fun w9 hS9 => val_load [.slice av vs.length capv, .slice ab bd.length capb] hT rfl rfl rfl ((hS9.blk hX16 (by simp)).range (by rfl))) hS ?_
    refine tk 2 ?_
    refine tk 3 ?_
    refine dr_any 4 _ rfl (by decide +kernel) rfl rfl (fun w => val_index i hT rfl rfl rfl rfl rfl hlt w) ?_
    refine dr_val 5 (.agg ci.toArray) rfl (by decide +kernel) rfl rfl (fun w9 hS9 => val_load ci hT rfl rfl (by rw [hc1.length]; rfl) (range_keep hr1 (hk6.tr hS9) (hF2 _ hF1) (by simp))) hS ?_
    refine tk 6 ?_
    refine tk 7 ?_
    refine tk 8 ?_
    refine dr_num 9 (((i0 + Q.length : Nat) : Int)) rfl (by decide +kernel) rfl rfl rfl rfl rfl (by simp only [ariP]; omega) ?_
    have hk27 := hk6.tr hS
    refine dr_op 10 rfl (by decide +kernel) rfl rfl (opTo_call (fst := []) (cap := []) rfl rfl rfl rfl (by decide +kernel) ((hst l[i] (by omega) (by omega) (gdSs_at hgd hxi) (hp2.keep hk27 hF2.stays) (hc1.keep hk27 hF2.stays) (hF2.keep hk27) (by omega)).mono ?_))
    rintro r w8 ⟨hrow8, hk8⟩
    refine ⟨fun _ => hS.tr hk8, ?_⟩
    have hrv8 := hrow.keep0 (hS.tr hk8)
    have hk28 := hk27.tr hk8
    refine dr_op 11 rfl (by decide +kernel) rfl rfl (opTo_rowApp Q (insS vs l[i] (i0 + Q.length)) rfl rfl rfl app_ri hrv8 hrow8.ins (by omega) hk28.size ?_)
    intro v9 w9 hrow9 hk9
    refine ⟨fun h => absurd (by simp) h, ?_⟩
    refine tk 12 ?_
    refine dr_done (by decide +kernel) ?_
    refine au ?_
    refine pl_num (((i + 1 : Nat) : Int)) rfl rfl rfl rfl rfl (by simp only [ariP]; omega) ?_
    refine au ?_
    refine rn_sub ?_ (ih (l.length - (i + 1)) [(1, .slice (some ⟨b1, q1, none⟩) l.length cap), (2, .int .i64 (i0 : Nat)), (3, .pointer (some ⟨x1, 0, none⟩)), (7, v9), (8, .int .i64 ((i + 1 : Nat) : Int))] w9 (by omega) ⟨i + 1, v9, by omega, rfl, rfl, ?_, row_keep hrv8 hk28 hk9⟩)
    · exact ⟨rfl, rfl, rfl, rfl, rfl, trivial⟩
    · rw [htk]; exact hrow9
  · refine nay ?_
    rw [List.take_of_length_le (by omega)] at hrow
    refine au ?_
    exact rn_ret Tryz.func59 (.inl ⟨_, rfl, rfl⟩) ⟨hrow.lower hsz2, hk.tr hk6⟩

theorem stmtCode_ret {vs : List VarT} {bd : List ST} (hs : Sized vs) {av ab : Option Addr} {capv capb : Nat} : ∀ (s : Nat), StC vs bd av ab capv capb s := by
  intro s
  induction s with
  | zero => intro t ht; omega
  | succ s ihs =>
    intro t ht ht3 hgd F w cs i0 hp hX hF hi0
    obtain ⟨op, v, e, f, lb, lo⟩ := t
    obtain ⟨ce, cf, bv, ov, rfl, he, hf, hb, ho⟩ := hX.inv
    obtain ⟨e0, e1, e2, e3, rfl⟩ := list4 he.length
    obtain ⟨f0, f1, f2, f3, rfl⟩ := list4 hf.length
    obtain ⟨ba, bc, rfl⟩ := hb.form
    obtain ⟨oa, oc, rfl⟩ := ho.form
    obtain ⟨hp1, hp2, hp3, hp4, hp5, hp6, hp7⟩ := hgd
    simp only [szS] at ht ht3 hi0
    refine ret_of 121 Tryz.func82 rfl rfl (by simp) ?_
    refine au ?_
    refine pl_op rfl rfl (opTo_boxN [.slice av vs.length capv, .slice ab bd.length capb] rfl rfl rfl ?_)
    intro w1 x1 hx1 hs1 hk1 hX1'
    refine pl_op rfl rfl (opTo_boxN [.int .i64 op, .int .i64 v, e0, e1, e2, e3, f0, f1, f2, f3, .slice ba lb.length bc, .slice oa lo.length oc] rfl rfl rfl ?_)
    intro w2 x2 hx2 hs2 hk2 hX2
    have hX1 := hk2.blk hX1' (by simp)
    have hk := hk1.tr hk2
    have hq2 := hp.keep hk hF.stays
    have he2 := he.keep hk hF.stays
    have hf2 := hf.keep hk hF.stays
    have hb2 := hb.keep hk hF.stays
    have ho2 := ho.keep hk hF.stays
    have hF2 := hF.keep hk
    have hsz2 : w.heap.size ≤ w2.heap.size := hk.size
    clear hX1' hk1 hk2
    refine auj ?_
    refine rn_seq ?_
    refine rn_plain ?_
    refine auj ?_
    refine rn_seq ?_
    have hel := eI_len vs op e
    have hfl := fI_len vs op f
    obtain ⟨E, hEdef⟩ : ∃ E, eI vs op e = E := ⟨_, rfl⟩
    rw [hEdef] at hel
    refine rn_with (fun σ' w' => ∃ rv, RowI tRI w' w2.heap.size rv E ∧ Keep [] w2 w' ∧ Sub [(2, .int .i64 (i0 : Nat)), (3, .pointer (some ⟨x1, 0, none⟩)), (4, .pointer (some ⟨x2, 0, none⟩)), (7, rv)] σ') ?_ ?_
    rotate_left
    · intro fin
      refine au ?_
      refine pl_val _ rfl rfl (val_load1 hT rfl rfl rfl (hX2.cell rfl)) ?_
      refine pl_op rfl rfl (opTo_call (fst := []) (cap := []) rfl rfl rfl rfl (by decide +kernel) ((needed_ret op 101 w2).mono ?_))
      rintro r w3 ⟨rfl, hww⟩
      rw [hww, (needC_all op).1]
      obtain ⟨qe, hqe⟩ : ∃ q, q = needE op := ⟨_, rfl⟩
      rw [← hqe]
      unfold eI at hEdef
      rw [← hqe] at hEdef
      cases qe with
      | false =>
        refine auj ?_
        have hE0 : E = [] := by rw [← hEdef]; rfl
        exact fin _ _ ⟨_, by rw [hE0]; exact RowI.nil _ _ _, Keep.refl _ _, rfl, rfl, rfl, rfl, trivial⟩
      | true =>
        refine auj ?_
        refine rn_plain ?_
        refine pl_val (.agg #[.slice av vs.length capv, .slice ab bd.length capb]) rfl rfl (val_load [.slice av vs.length capv, .slice ab bd.length capb] hT rfl rfl rfl (hX1.range (by rfl))) ?_
        refine au ?_
        refine pl_val (.agg #[e0, e1, e2, e3]) rfl rfl (val_load [e0, e1, e2, e3] hT rfl rfl rfl (hX2.range rfl)) ?_
        refine pl_op rfl rfl (opTo_call (fst := []) (cap := []) rfl rfl rfl rfl (by decide +kernel) ((exprCode_ret hs (szE e + 1) e (by omega) (by omega) (hp4 hqe.symm) hq2 he2 hF2).mono ?_))
        rintro r w4 ⟨hrow4, hk4⟩
        refine auj ?_
        have hE1 : E = insE vs e := by rw [← hEdef]; rfl
        exact fin _ _ ⟨r, by rw [hE1]; exact hrow4, hk4, rfl, rfl, rfl, rfl, trivial⟩
    rintro σ' w4 ⟨rv, hrow, hk4, hsub⟩
    refine rn_sub hsub ?_
    clear hsub
    refine au ?_
    refine pl_val (.agg #[.slice av vs.length capv, .slice ab bd.length capb]) rfl rfl (val_load [.slice av vs.length capv, .slice ab bd.length capb] hT rfl rfl rfl ((hk4.blk hX1 (by simp)).range (by rfl))) ?_
    refine au ?_
    refine pl_val _ rfl rfl (val_load1 hT rfl rfl rfl ((hk4.blk hX2 (by simp)).cell rfl)) ?_
    refine pl_op rfl rfl (opTo_call (fst := []) (cap := []) rfl rfl rfl rfl (by decide +kernel) ((refCell_ret (hq2.keep hk4 hF2.stays) (hF2.keep hk4) hs v).mono ?_))
    rintro r w6 ⟨rfl, hk6⟩
    replace hrow := hrow.keep0 hk6
    have hk2c := hk4.tr hk6
    have hX16 := hk2c.blk hX1 (by simp)
    have hX26 := hk2c.blk hX2 (by simp)
    clear hk4 hk6
    refine au ?_
    refine pl_val _ rfl rfl (val_load1 hT rfl rfl rfl (hX26.cell rfl)) ?_
    refine au ?_
    by_cases h1 : op = 1
    · subst h1
      refine ye ?_
      refine au ?_
      refine pl_val _ rfl rfl (val_build _ rfl rfl (built_ri1 9 (cellOf vs v)) w6) ?_
      refine pl_op rfl rfl (opTo_sliceN tRI (iC (9, cellOf vs v, 0, 0)) rfl rfl (slice_ri (9, cellOf vs v, 0, 0)) ?_)
      intro wa ga hga hsa hka hba
      have hra := hrow.keep0 hka
      have hk2a := hk2c.tr hka
      refine pl_op rfl rfl (opTo_rowApp E [(9, cellOf vs v, 0, 0)] rfl rfl rfl app_ri hra (ins_one hba) (by simp; omega) hk2a.size ?_)
      intro vb wb hrowb hkb
      have hk2b := row_keep hra hk2a hkb
      refine au ?_
      refine rn_ret Tryz.func82 (.inl ⟨_, rfl, rfl⟩) ⟨?_, hk.tr hk2b⟩
      simpa [insS, lastI, fI, needF, hEdef] using hrowb.lower hsz2
    refine nay ?_
    refine au ?_
    by_cases h2 : op = 2
    · subst h2
      obtain ⟨hv0, hvl⟩ := hp3 rfl
      obtain ⟨k, rfl⟩ : ∃ k : Nat, v = (k : Nat) := ⟨v.toNat, by omega⟩
      simp only [Int.toNat_natCast] at hvl
      have hxv : vs[k]? = some vs[k] := List.getElem?_eq_getElem hvl
      have hq2' := hq2
      obtain ⟨vv, bv, hpe, hv, _⟩ := hq2'
      cases hpe
      obtain ⟨vb, vq, vc, hvv, hFv, hrv⟩ := hv.at hxv
      cases hvv
      have hsv : sizeV vs ((k : Nat) : Int) = vs[k].2 := by
        unfold sizeV
        rw [Int.toNat_natCast, List.getD_eq_getElem?_getD, hxv]
        rfl
      refine ye ?_
      refine au ?_
      refine pl_val (.agg #[.slice (some ⟨vb, vq, none⟩) vs.length capv, .slice ab bd.length capb]) rfl rfl (val_load [.slice (some ⟨vb, vq, none⟩) vs.length capv, .slice ab bd.length capb] hT rfl rfl rfl (hX16.range (by rfl))) ?_
      refine au ?_
      refine pl_val (.agg #[f0, f1, f2, f3]) rfl rfl (val_load [f0, f1, f2, f3] hT rfl rfl rfl (hX26.range rfl)) ?_
      refine pl_op rfl rfl (opTo_call (fst := []) (cap := []) rfl rfl rfl rfl (by decide +kernel) ((exprCode_ret hs (szE f + 1) f (by omega) (by omega) (hp5 rfl) (hq2.keep hk2c hF2.stays) (hf2.keep hk2c hF2.stays) (hF2.keep hk2c)).mono ?_))
      rintro r w7 ⟨hrow7, hk7⟩
      have hl7 := insE_len vs f
      have hrw7 := hrow.keep0 hk7
      have hk27 := hk2c.tr hk7
      refine pl_op rfl rfl (opTo_rowApp E (insE vs f) rfl rfl rfl app_ri hrw7 hrow7.ins (by omega) hk27.size ?_)
      intro v8 w8 hrow8 hk8
      have hk28 := row_keep hrw7 hk27 hk8
      have hX18 := hk28.blk hX1 (by simp)
      have hX28 := hk28.blk hX2 (by simp)
      clear hrow hk2c hX16 hX26
      have hrow := hrow8
      have hk2c := hk28
      refine au ?_
      refine pl_val _ rfl rfl (val_load1 hT rfl rfl rfl (hX18.cell rfl)) ?_
      refine au ?_
      refine pl_val _ rfl rfl (val_load1 hT rfl rfl rfl (hX28.cell rfl)) ?_
      refine pl_val _ rfl rfl (val_index k hT rfl rfl rfl rfl rfl hvl w8) ?_
      refine au ?_
      refine pl_val _ rfl rfl (val_load1 hT rfl rfl rfl ((range_keep hrv hk28 (hF2 _ hFv) (by simp)) 1 (.int .i64 vs[k].2) rfl)) ?_
      refine pl_val _ rfl rfl (val_build _ rfl rfl (built_ri2 10 (cellOf vs ((k : Nat) : Int)) vs[k].2) w8) ?_
      refine pl_op rfl rfl (opTo_sliceN tRI (iC (10, cellOf vs ((k : Nat) : Int), vs[k].2, 0)) rfl rfl (slice_ri (10, cellOf vs ((k : Nat) : Int), vs[k].2, 0)) ?_)
      intro wa ga hga hsa hka hba
      have hra := hrow.keep0 hka
      have hk2a := hk2c.tr hka
      refine pl_op rfl rfl (opTo_rowApp (E ++ insE vs f) [(10, cellOf vs ((k : Nat) : Int), vs[k].2, 0)] rfl rfl rfl app_ri hra (ins_one hba) (by simp; omega) hk2a.size ?_)
      intro vb wb hrowb hkb
      have hk2b := row_keep hra hk2a hkb
      refine au ?_
      refine rn_ret Tryz.func82 (.inl ⟨_, rfl, rfl⟩) ⟨?_, hk.tr hk2b⟩
      simpa [insS, lastI, fI, needF, hEdef, hsv] using hrowb.lower hsz2
    refine nay ?_
    refine au ?_
    by_cases h3 : op = 3
    · subst h3
      refine ye ?_
      refine au ?_
      refine pl_val _ rfl rfl (val_build _ rfl rfl (built_ri0 11) w6) ?_
      refine pl_op rfl rfl (opTo_sliceN tRI (iC (11, 0, 0, 0)) rfl rfl (slice_ri (11, 0, 0, 0)) ?_)
      intro wa ga hga hsa hka hba
      have hra := hrow.keep0 hka
      have hk2a := hk2c.tr hka
      refine pl_op rfl rfl (opTo_rowApp E [(11, 0, 0, 0)] rfl rfl rfl app_ri hra (ins_one hba) (by simp; omega) hk2a.size ?_)
      intro vb wb hrowb hkb
      have hk2b := row_keep hra hk2a hkb
      refine au ?_
      refine rn_ret Tryz.func82 (.inl ⟨_, rfl, rfl⟩) ⟨?_, hk.tr hk2b⟩
      simpa [insS, lastI, fI, needF, hEdef] using hrowb.lower hsz2
    refine nay ?_
    refine au ?_
    by_cases h4 : op = 4
    · subst h4
      refine ye ?_
      refine au ?_
      refine pl_val _ rfl rfl (val_build _ rfl rfl (built_ri1 12 (cellOf vs v)) w6) ?_
      refine pl_op rfl rfl (opTo_sliceN tRI (iC (12, cellOf vs v, 0, 0)) rfl rfl (slice_ri (12, cellOf vs v, 0, 0)) ?_)
      intro wa ga hga hsa hka hba
      have hra := hrow.keep0 hka
      have hk2a := hk2c.tr hka
      refine pl_op rfl rfl (opTo_rowApp E [(12, cellOf vs v, 0, 0)] rfl rfl rfl app_ri hra (ins_one hba) (by simp; omega) hk2a.size ?_)
      intro vb wb hrowb hkb
      have hk2b := row_keep hra hk2a hkb
      refine au ?_
      refine rn_ret Tryz.func82 (.inl ⟨_, rfl, rfl⟩) ⟨?_, hk.tr hk2b⟩
      simpa [insS, lastI, fI, needF, hEdef] using hrowb.lower hsz2
    refine nay ?_
    refine au ?_
    by_cases h7 : op = 7
    · subst h7
      refine ye ?_
      refine au ?_
      refine pl_val _ rfl rfl (val_build _ rfl rfl (built_ri0 15) w6) ?_
      refine pl_op rfl rfl (opTo_sliceN tRI (iC (15, 0, 0, 0)) rfl rfl (slice_ri (15, 0, 0, 0)) ?_)
      intro wa ga hga hsa hka hba
      have hra := hrow.keep0 hka
      have hk2a := hk2c.tr hka
      refine pl_op rfl rfl (opTo_rowApp E [(15, 0, 0, 0)] rfl rfl rfl app_ri hra (ins_one hba) (by simp; omega) hk2a.size ?_)
      intro vb wb hrowb hkb
      have hk2b := row_keep hra hk2a hkb
      refine au ?_
      refine rn_ret Tryz.func82 (.inl ⟨_, rfl, rfl⟩) ⟨?_, hk.tr hk2b⟩
      simpa [insS, lastI, fI, needF, hEdef] using hrowb.lower hsz2
    refine nay ?_
    refine au ?_
    obtain ⟨ra, rc, rfl⟩ := hrow.form
    refine pl_val (.agg #[.slice av vs.length capv, .slice ab bd.length capb]) rfl rfl (val_load [.slice av vs.length capv, .slice ab bd.length capb] hT rfl rfl rfl (hX16.range (by rfl))) ?_
    refine au ?_
    refine pl_val _ rfl rfl (val_load1 hT rfl rfl rfl (hX26.cell rfl)) ?_
    refine au ?_
    refine pl_num (((i0 + E.length : Nat) : Int)) rfl rfl rfl rfl rfl (by simp only [ariP]; omega) ?_
    refine pl_num (((i0 + E.length + 1 : Nat) : Int)) rfl rfl rfl rfl rfl (by simp only [ariP]; omega) ?_
    refine pl_op rfl rfl (opTo_call (fst := []) (cap := []) rfl rfl rfl rfl (by decide +kernel) ((listCode_ret ihs lb (by omega) (by omega) hp6 (hq2.keep hk2c hF2.stays) (hb2.keep hk2c hF2.stays) (hF2.keep hk2c) (by omega)).mono ?_))
    rintro r w7 ⟨hrowX, hk7⟩
    have hXl := insSs_len vs lb (i0 + E.length + 1)
    obtain ⟨X, hXd⟩ : ∃ X, insSs vs lb (i0 + E.length + 1) = X := ⟨_, rfl⟩
    rw [hXd] at hrowX hXl
    obtain ⟨xa, xc, rfl⟩ := hrowX.form
    have hrow7 := hrow.keep0 hk7
    have hk27 := hk2c.tr hk7
    refine au ?_
    refine pl_num (((i0 + E.length : Nat) : Int)) rfl rfl rfl rfl rfl (by simp only [ariP]; omega) ?_
    refine pl_num (((i0 + E.length + 1 : Nat) : Int)) rfl rfl rfl rfl rfl (by simp only [ariP]; omega) ?_
    refine au ?_
    refine pl_num (((i0 + E.length + 1 + X.length : Nat) : Int)) rfl rfl rfl rfl rfl (by simp only [ariP]; omega) ?_
    refine pl_num (((i0 + E.length + 1 + X.length + 1 : Nat) : Int)) rfl rfl rfl rfl rfl (by simp only [ariP]; omega) ?_
    refine au ?_
    obtain ⟨Z, hZ⟩ : ∃ Z : Is, Z = (13, ((i0 + E.length + 1 + X.length + 1 : Nat) : Int), 0, 0) := ⟨_, rfl⟩
    refine pl_val (.agg (iC Z).toArray) rfl rfl (by rw [hZ]; exact val_build _ rfl rfl (built_ri1 13 _) w7) ?_
    refine pl_op rfl rfl (opTo_sliceN tRI (iC Z) rfl rfl (slice_ri Z) ?_)
    intro w8 g8 hg8 hs8 hk8 hb8
    have hrow8 := hrow7.keep0 hk8
    have hrowX8 := hrowX.keep0 hk8
    have hk28 := hk27.tr hk8
    have hin : ∀ k ∈ (Value.slice ra E.length rc).ownBlock.toList, k < w6.heap.size := fun k hm => (hrow.own k hm).2
    refine pl_op rfl rfl (opTo_rowApp E [Z] rfl rfl rfl app_ri hrow8 (ins_one hb8) (by simp; omega) hk28.size ?_)
    intro v9 w9 hrow9 hk9
    have hk29 := row_keep hrow8 hk28 hk9
    have hrowX9 := hrowX8.keep hk9 hin
    refine au ?_
    refine pl_op rfl rfl (opTo_rowApp (E ++ [Z]) X rfl rfl rfl app_ri hrow9 hrowX9.ins (by simp; omega) hk29.size ?_)
    intro v10 w10 hrow10 hk10
    have hk210 := row_keep hrow9 hk29 hk10
    refine au ?_
    refine pl_val _ rfl rfl (val_load1 hT rfl rfl rfl ((hk210.blk hX2 (by simp)).cell rfl)) ?_
    clear hrow hk2c hrow7 hrow8 hrow9
    have hrow := hrow10
    have hk2c := hk210
    by_cases h5 : op = 5
    · subst h5
      refine ye ?_
      refine au ?_
      refine pl_val _ rfl rfl (val_build _ rfl rfl (built_ri1 14 ((i0 : Nat) : Int)) w10) ?_
      refine pl_op rfl rfl (opTo_sliceN tRI (iC (14, ((i0 : Nat) : Int), 0, 0)) rfl rfl (slice_ri (14, ((i0 : Nat) : Int), 0, 0)) ?_)
      intro wa ga hga hsa hka hba
      have hra := hrow.keep0 hka
      have hk2a := hk2c.tr hka
      refine pl_op rfl rfl (opTo_rowApp (E ++ [Z] ++ X) [(14, ((i0 : Nat) : Int), 0, 0)] rfl rfl rfl app_ri hra (ins_one hba) (by simp; omega) hk2a.size ?_)
      intro vb wb hrowb hkb
      have hk2b := row_keep hra hk2a hkb
      refine au ?_
      refine rn_ret Tryz.func82 (.inl ⟨_, rfl, rfl⟩) ⟨?_, hk.tr hk2b⟩
      have e9 : insS vs (.mk 5 v e f lb lo) i0 = E ++ [Z] ++ X ++ [(14, ((i0 : Nat) : Int), 0, 0)] := by
        rw [insS, if_pos rfl, hEdef, hXd, hZ]
        simp [whileI]
      rw [e9]
      exact hrowb.lower hsz2
    have h6 : op = 6 := by omega
    subst h6
    refine nay ?_
    refine au ?_
    refine pl_val (.agg #[.slice av vs.length capv, .slice ab bd.length capb]) rfl rfl (val_load [.slice av vs.length capv, .slice ab bd.length capb] hT rfl rfl rfl ((hk210.blk hX1 (by simp)).range (by rfl))) ?_
    refine au ?_
    refine pl_val _ rfl rfl (val_load1 hT rfl rfl rfl ((hk210.blk hX2 (by simp)).cell rfl)) ?_
    refine au ?_
    refine pl_op rfl rfl (opTo_call (fst := []) (cap := []) rfl rfl rfl rfl (by decide +kernel) ((listCode_ret ihs lo (by omega) (by omega) hp7 (hq2.keep hk210 hF2.stays) (ho2.keep hk210 hF2.stays) (hF2.keep hk210) (by omega)).mono ?_))
    rintro r w11 ⟨hrowY, hk11⟩
    have hYl := insSs_len vs lo (i0 + E.length + 1 + X.length + 1)
    obtain ⟨Y, hY⟩ : ∃ Y, insSs vs lo (i0 + E.length + 1 + X.length + 1) = Y := ⟨_, rfl⟩
    rw [hY] at hrowY hYl
    obtain ⟨ya, yc, rfl⟩ := hrowY.form
    have hrow11 := hrow10.keep0 hk11
    have hk211 := hk210.tr hk11
    refine au ?_
    refine pl_num (((i0 + E.length + 1 + X.length + 1 + Y.length : Nat) : Int)) rfl rfl rfl rfl rfl (by simp only [ariP]; omega) ?_
    obtain ⟨J, hJ⟩ : ∃ J : Is, J = (14, ((i0 + E.length + 1 + X.length + 1 + Y.length : Nat) : Int), 0, 0) := ⟨_, rfl⟩
    refine pl_val (.agg (iC J).toArray) rfl rfl (by rw [hJ]; exact val_build _ rfl rfl (built_ri1 14 _) w11) ?_
    refine pl_op rfl rfl (opTo_sliceN tRI (iC J) rfl rfl (slice_ri J) ?_)
    intro w12 g12 hg12 hs12 hk12 hb12
    have hrow12 := hrow11.keep0 hk12
    have hrowY12 := hrowY.keep0 hk12
    have hk212 := hk211.tr hk12
    have hin2 : ∀ k ∈ v10.ownBlock.toList, k < w10.heap.size := fun k hm => (hrow10.own k hm).2
    refine pl_op rfl rfl (opTo_rowApp (E ++ [Z] ++ X) [J] rfl rfl rfl app_ri hrow12 (ins_one hb12) (by simp; omega) hk212.size ?_)
    intro v13 w13 hrow13 hk13
    have hk213 := row_keep hrow12 hk212 hk13
    have hrowY13 := hrowY12.keep hk13 hin2
    refine au ?_
    refine pl_op rfl rfl (opTo_rowApp (E ++ [Z] ++ X ++ [J]) Y rfl rfl rfl app_ri hrow13 hrowY13.ins (by simp; omega) hk213.size ?_)
    intro v14 w14 hrow14 hk14
    have hk214 := row_keep hrow13 hk213 hk14
    refine au ?_
    refine rn_ret Tryz.func82 (.inl ⟨_, rfl, rfl⟩) ⟨?_, hk.tr hk214⟩
    have e9 : insS vs (.mk 6 v e f lb lo) i0 = E ++ [Z] ++ X ++ [J] ++ Y := by
      rw [insS, if_neg (by decide), if_pos rfl, hEdef, hXd, hY, hZ, hJ]
      simp [ifI]
    rw [e9]
    exact hrow14.lower hsz2

theorem codeOf_ret {F : Nat → Prop} {w : World} {x : Value} {vs : List VarT} {body : List ST} (h : ProgV F w x vs body) (hF : In F w) (hs : Sized vs) (hgd : gdSs vs.length body) (hsz : szSs body ≤ 100000) :
    Ret Tryz.prog 32 [x] w fun r w' => RowI tRI w' w.heap.size r (insP vs body) ∧ Keep [] w w' := by
  have hp := h
  obtain ⟨vv, bv, rfl, hv, hb⟩ := h
  obtain ⟨av, capv, rfl⟩ := hv.form
  obtain ⟨ab, capb, rfl⟩ := hb.form
  refine ret_of 12 Tryz.func32 rfl rfl (by simp) ?_
  refine au ?_
  refine pl_op rfl rfl (opTo_boxN [.slice av vs.length capv, .slice ab body.length capb] rfl rfl rfl ?_)
  intro w2 x1 hx1 hs1 hk hX1
  refine au ?_
  refine pl_val (.agg #[.slice av vs.length capv, .slice ab body.length capb]) rfl rfl (val_load [.slice av vs.length capv, .slice ab body.length capb] hT rfl rfl rfl (hX1.range (by rfl))) ?_
  refine au ?_
  refine pl_val _ rfl rfl (val_load1 hT rfl rfl rfl (hX1.cell rfl)) ?_
  refine pl_op rfl rfl (opTo_call (fst := []) (cap := []) rfl rfl rfl rfl (by decide +kernel) ((listCode_ret (i0 := 0) (stmtCode_ret hs (szSs body + 1)) body (by omega) hsz hgd (hp.keep hk hF.stays) (hb.keep hk hF.stays) (hF.keep hk) (by omega)).mono ?_))
  rintro r w6 ⟨hrow, hk2c⟩
  have hl := insSs_len vs body 0
  refine au ?_
  refine pl_val _ rfl rfl (val_build _ rfl rfl (built_ri0 16) w6) ?_
  refine pl_op rfl rfl (opTo_sliceN tRI (iC haltI) rfl rfl (slice_ri haltI) ?_)
  intro wa ga hga hsa hka hba
  have hra := hrow.keep0 hka
  have hk2a := hk2c.tr hka
  refine pl_op rfl rfl (opTo_rowApp (insSs vs body 0) [haltI] rfl rfl rfl app_ri hra (ins_one hba) (by simp; omega) hk2a.size ?_)
  intro vb wb hrowb hkb
  have hk2b := row_keep hra hk2a hkb
  refine au ?_
  exact rn_ret Tryz.func32 (.inl ⟨_, rfl, rfl⟩) ⟨hrowb.lower hk.size, hk.tr hk2b⟩
end E
end Go.Proofs.YtmplkogkphmmjafGreat

/- The document's Being: Step whole, Commits, Now, NewBeing; SameLongs, SameResult. -/
namespace Go.Proofs.YtmplkogkphmmjafGreat
set_option maxRecDepth 20000
set_option maxHeartbeats 4000000
namespace E
open Go.Proofs

/-! ### The same numbers -/
theorem LsV.at {w : World} {v : Value} {l : List Int} (h : LsV w v l) {i : Nat} {x : Int} (hx : l[i]? = some x) : ∃ b q cap, v = .slice (some ⟨b, q, none⟩) l.length cap ∧ b < w.heap.size ∧ w.rangeAt b (q + i) [.int .i64 x] := by
  obtain ⟨a, cap, h1, h2⟩ := h
  have hi := (List.getElem?_eq_some_iff.1 hx).1
  obtain ⟨b, q, h3, h4, h5⟩ := h2 (by omega)
  refine ⟨b, q, cap, by rw [h1, h3], h4, fun j u hu => ?_⟩
  have hj : j = 0 := by have := (List.getElem?_eq_some_iff.1 hu).1; simp at this; omega
  subst hj
  have : u = .int .i64 x := by simpa using hu.symm
  subst this
  exact h5 i _ (lgs_at hx)
theorem sameLs_ret {w : World} {u v : Value} {l : List Int} (hu : LsV w u l) (hv : LsV w v l) (hl : l.length ≤ 1000000) : Ret Tryz.prog 21 [u, v] w fun r w' => r = .bool true ∧ Keep [] w w' := by
  have hu' := hu
  have hv' := hv
  obtain ⟨ua, uc, rfl, _⟩ := hu'
  obtain ⟨va, vc, rfl, _⟩ := hv'
  refine ret_of 26 Tryz.func21 rfl rfl (by simp) ?_
  refine au ?_
  refine nay ?_
  refine au ?_
  refine rn_ind (fun m σ w' => ∃ i : Nat, i ≤ l.length ∧ m = l.length - i ∧ σ = [(0, .slice ua l.length uc), (1, .slice va l.length vc), (5, .int .i64 (i : Nat))] ∧ Keep [] w w') l.length _ ?_ ⟨0, by omega, by omega, rfl, Keep.refl _ _⟩ ?_
  · exact ⟨rfl, rfl, rfl, trivial⟩
  rintro m σ w1 ih ⟨i, hi, rfl, rfl, hk1⟩
  refine au ?_
  by_cases hlt : i < l.length
  · refine ye ?_
    have hxi : l[i]? = some l[i] := List.getElem?_eq_getElem hlt
    obtain ⟨x, hx⟩ : ∃ x, x = l[i] := ⟨_, rfl⟩
    rw [← hx] at hxi
    obtain ⟨b1, q1, c1, hv1, hl1, hr1⟩ := hu.at hxi
    cases hv1
    obtain ⟨b2, q2, c2, hv2, hl2, hr2⟩ := hv.at hxi
    cases hv2
    refine au ?_
    refine rn_draw (fun w' => Keep [] w w') [] hMix ?_
    have hS : Keep [] w w1.drew := hk1.drew
    refine tk 0 ?_
    refine tk 1 ?_
    refine dr_any 2 _ rfl (by decide +kernel) rfl rfl (fun w => val_index i hT rfl rfl rfl rfl rfl hlt w) ?_
    refine dr_val 3 (.int .i64 x) rfl (by decide +kernel) rfl rfl (fun w9 hS9 => val_load1 hT rfl rfl rfl (by have := range_keep hr1 hS9 hl1 (by simp) 0 _ rfl; simpa using this)) hS ?_
    refine tk 4 ?_
    refine tk 5 ?_
    refine dr_any 6 _ rfl (by decide +kernel) rfl rfl (fun w => val_index i hT rfl rfl rfl rfl rfl hlt w) ?_
    refine dr_val 7 (.int .i64 x) rfl (by decide +kernel) rfl rfl (fun w9 hS9 => val_load1 hT rfl rfl rfl (by have := range_keep hr2 hS9 hl2 (by simp) 0 _ rfl; simpa using this)) hS ?_
    refine dno 8 ?_
    refine dr_done (by decide +kernel) ?_
    refine au ?_
    refine pl_num (((i + 1 : Nat) : Int)) rfl rfl rfl rfl rfl (by simp only [ariP]; omega) ?_
    refine au ?_
    refine rn_sub ?_ (ih (l.length - (i + 1)) [(0, .slice (some ⟨b1, q1, none⟩) l.length uc), (1, .slice (some ⟨b2, q2, none⟩) l.length vc), (5, .int .i64 ((i + 1 : Nat) : Int))] w1.drew (by omega) ⟨i + 1, by omega, rfl, rfl, hS⟩)
    exact ⟨rfl, rfl, rfl, trivial⟩
  · refine nay ?_
    refine au ?_
    exact rn_ret Tryz.func21 (.inl ⟨_, rfl, rfl⟩) ⟨rfl, hk1⟩
/-- Two results that are the same. -/
theorem sameRes_ret {w : World} {u v x y : Value} {l n : List Int} (c : Int) (hu : LsV w u l) (hv : LsV w v n) (hx : LsV w x l) (hy : LsV w y n) (hl : l.length ≤ 1000000) (hn : n.length ≤ 1000000) :
    Ret Tryz.prog 11 [.agg #[.int .i64 c, u, v], .agg #[.int .i64 c, x, y]] w fun r w' => r = .bool true ∧ Keep [] w w' := by
  have h1 := hu
  have h2 := hv
  have h3 := hx
  have h4 := hy
  obtain ⟨_, _, rfl, _⟩ := h1
  obtain ⟨_, _, rfl, _⟩ := h2
  obtain ⟨_, _, rfl, _⟩ := h3
  obtain ⟨_, _, rfl, _⟩ := h4
  refine ret_of 24 Tryz.func11 rfl rfl (by simp) ?_
  refine au ?_
  refine pl_op rfl rfl (opTo_boxN [.int .i64 c, _, _] rfl rfl rfl ?_)
  intro w1 x1 hx1 hs1 hk1 hb1
  refine pl_op rfl rfl (opTo_boxN [.int .i64 c, _, _] rfl rfl rfl ?_)
  intro w2 x2 hx2 hs2 hk2 hb2
  have hb1' := hk2.blk hb1 (by simp)
  have hk := hk1.tr hk2
  refine au ?_
  refine pl_val _ rfl rfl (val_load1 hT rfl rfl rfl (hb1'.cell rfl)) ?_
  refine au ?_
  refine pl_val _ rfl rfl (val_load1 hT rfl rfl rfl (hb2.cell rfl)) ?_
  refine ye ?_
  refine au ?_
  refine pl_val _ rfl rfl (val_load1 hT rfl rfl rfl (hb1'.cell rfl)) ?_
  refine au ?_
  refine pl_val _ rfl rfl (val_load1 hT rfl rfl rfl (hb2.cell rfl)) ?_
  refine pl_op rfl rfl (opTo_call (fst := []) (cap := []) rfl rfl rfl rfl (by decide +kernel) ((sameLs_ret (hu.keep0 hk) (hx.keep0 hk) hl).mono ?_))
  rintro r w3 ⟨rfl, hk3⟩
  have hb13 := hk3.blk hb1' (by simp)
  have hb23 := hk3.blk hb2 (by simp)
  refine au ?_
  refine pl_val _ rfl rfl (val_load1 hT rfl rfl rfl (hb13.cell rfl)) ?_
  refine au ?_
  refine pl_val _ rfl rfl (val_load1 hT rfl rfl rfl (hb23.cell rfl)) ?_
  refine pl_op rfl rfl (opTo_call (fst := []) (cap := []) rfl rfl rfl rfl (by decide +kernel) ((sameLs_ret ((hv.keep0 hk).keep0 hk3) ((hy.keep0 hk).keep0 hk3) hn).mono ?_))
  rintro r w4 ⟨rfl, hk4⟩
  refine au ?_
  exact rn_ret Tryz.func11 (.inl ⟨_, rfl, rfl⟩) ⟨rfl, (hk.tr hk3).tr hk4⟩

/-! ### A program's instructions -/
/-- What is known of the instructions of a program. -/
structure Prg (c : Nat) (Q : List Is) : Prop where
  sim : Sim c 0 Q 0
  jmp : Jmps c 0 Q
  ops : ∀ x ∈ Q, 1 ≤ x.1 ∧ x.1 ≤ 15
  cells : c ≤ 1000
  len : Q.length ≤ 100000
theorem Sim.le {c : Int} {n m : Nat} {l : List Is} (h : Sim c n l m) (hn : n ≤ 24) : m ≤ 24 := by
  induction h with
  | nil => exact hn
  | cons hx _ ih => exact ih hx.room
section
variable {w0 w : World} {b : Nat} {inp : List Int} {cv iv : Value} {r : Rws} {m k : Md} {p : Pr} {c : Nat} {Q : List Is}
theorem bStep_ret (hP : Prg c Q) (h : Bw w0 w b (Q ++ [haltI]) inp cv iv r m k p) (hf : Fit c Q m p) (hil : inp.length ≤ 100000) (hpl : p.1.length ≤ 100000) (hrd : m.read ≤ 1000000) (q : Bool) :
    Ret Tryz.prog 40 [.pointer (some ⟨b, 0, none⟩), .bool q] w fun v w' => v = .bool (decide (m.state = 0)) ∧ BwTo w0 w w' b (Q ++ [haltI]) inp cv iv r (stB (Q ++ [haltI]) inp m p).1 (if q && comB (Q ++ [haltI]) m then (stB (Q ++ [haltI]) inp m p).1 else k) (stB (Q ++ [haltI]) inp m p).2 := by
  unfold stB comB
  by_cases hs : ¬ m.state = 0
  · rw [if_neg hs]
    refine (bStep_off h hs q).mono ?_
    rintro v w' ⟨rfl, rfl⟩
    simp only [hs, decide_false, Bool.false_and, Bool.and_false, Bool.false_eq_true, if_false]
    exact ⟨trivial, r, BwT.refl h⟩
  replace hs : m.state = 0 := by omega
  rw [if_pos hs]
  simp only [hs, decide_true, Bool.true_and]
  have hn := hf.next hs
  have hsim := hf.sim hs
  have hst24 := hsim.le (by decide)
  have hst : m.stack.length ≤ 1000 := by omega
  have hcc := hf.cells
  have hcl : m.cells.length ≤ 1000 := by have := hP.cells; omega
  have hlen := hP.len
  obtain ⟨x, hx, hfx⟩ := at_halt hP.sim hn hsim
  have hg : (Q ++ [haltI]).getD m.next (0, 0, 0, 0) = x := by rw [List.getD_eq_getElem?_getD, hx]; rfl
  rw [hg]
  have hWl : (Q ++ [haltI]).length ≤ 1000000 := by simp; omega
  rcases hfx with ⟨hlt, hxQ, hok, _⟩ | ⟨hlt, rfl, hk0⟩
  · have hops := hP.ops x (List.mem_of_getElem? hxQ)
    have hjm := hP.jmp x (List.mem_of_getElem? hxQ)
    obtain ⟨op, A, B, N⟩ := x
    obtain ⟨f1, f2, f3, f4, f5, f6⟩ := hok
    simp only at f1 f2 f3 f4 f5 f6 hops
    obtain ⟨n1, n2, n3, n4, n5, n6⟩ := popI_num op
    have hA : op = 13 ∨ op = 14 → 0 ≤ A := fun hj => by
      obtain ⟨kk, h1, _⟩ := hjm hj
      simp only at h1
      omega
    clear hjm
    have hne : ∀ {d : Int}, d ≠ 15 → (if q && decide ((d, A, B, N).1 = 15) then (exI inp (d, A, B, N) m p).1 else k) = k := fun {d} hd => by simp [hd]
    have hcase : op = 1 ∨ op = 2 ∨ op = 3 ∨ op = 4 ∨ op = 5 ∨ op = 6 ∨ op = 7 ∨ op = 8 ∨ op = 9 ∨ op = 10 ∨ op = 11 ∨ op = 12 ∨ op = 13 ∨ op = 14 ∨ op = 15 := by omega
    rcases hcase with rfl | rfl | rfl | rfl | rfl | rfl | rfl | rfl | rfl | rfl | rfl | rfl | rfl | rfl | rfl
    · rw [hne (by decide)]
      exact bStep_num h hs hx hWl hst hcl q
    · rw [hne (by decide)]
      obtain ⟨g1, g2⟩ := f5 (.inl rfl)
      exact bStep_var h hs hx hWl hst hcl g1 (by omega) q
    · rw [hne (by decide)]
      obtain ⟨g1, g2, g3⟩ := f6 (.inl rfl)
      have := n2 rfl
      exact bStep_get h hs hx hWl hst hcl (by omega) g1 (by omega) q
    · rw [hne (by decide)]
      have := n3 (by omega)
      exact bStep_add h hs hx hWl hst hcl (by omega) q
    · rw [hne (by decide)]
      have := n3 (by omega)
      exact bStep_sub h hs hx hWl hst hcl (by omega) q
    · rw [hne (by decide)]
      have := n3 (by omega)
      exact bStep_mul h hs hx hWl hst hcl (by omega) q
    · rw [hne (by decide)]
      have := n3 (by omega)
      exact bStep_less h hs hx hWl hst hcl (by omega) q
    · rw [hne (by decide)]
      have := n3 (by omega)
      exact bStep_same h hs hx hWl hst hcl (by omega) q
    · rw [hne (by decide)]
      obtain ⟨g1, g2⟩ := f5 (.inr (.inl rfl))
      have := n4 (by omega)
      exact bStep_set h hs hx hWl hst hcl (by omega) g1 (by omega) q
    · rw [hne (by decide)]
      obtain ⟨g1, g2, g3⟩ := f6 (.inr rfl)
      have := n5 rfl
      exact bStep_put h hs hx hWl hst hcl (by omega) g1 (by omega) q
    · rw [hne (by decide)]
      have := n4 (by omega)
      exact bStep_print h hs hx hWl hst hcl (by omega) hf.out hpl q
    · rw [hne (by decide)]
      obtain ⟨g1, g2⟩ := f5 (.inr (.inr rfl))
      exact bStep_read h hs hx hWl hst hcl g1 (by omega) hil hrd q
    · rw [hne (by decide)]
      have := n4 (by omega)
      exact bStep_else h hs hx hWl hst hcl (by omega) (hA (.inl rfl)) q
    · rw [hne (by decide)]
      exact bStep_jump h hs hx hWl hst hcl (hA (.inr rfl)) q
    · have e : (if q && decide (((15 : Int), A, B, N).1 = 15) then (exI inp (15, A, B, N) m p).1 else k) = (if q then (exI inp (15, A, B, N) m p).1 else k) := by simp
      rw [e]
      exact bStep_commit h hs hx hWl hst hcl q
  · have e : (if q && decide (haltI.1 = 15) then (exI inp haltI m p).1 else k) = k := by simp [haltI]
    rw [e]
    exact bStep_halt h hs hx hWl hst hcl q

end
section
variable {w0 w : World} {b : Nat} {inp : List Int} {cv iv : Value} {r : Rws} {m k : Md} {p : Pr} {c : Nat} {Q : List Is}
theorem bCommits_ret (h : Bw w0 w b (Q ++ [haltI]) inp cv iv r m k p) (hf : Fit c Q m p) : Ret Tryz.prog 39 [.pointer (some ⟨b, 0, none⟩)] w fun v w' => v = .bool (comB (Q ++ [haltI]) m) ∧ Keep [] w w' := by
  refine ret_of 24 Tryz.func39 rfl rfl (by simp) ?_
  unfold comB
  refine au ?_
  refine rn_draw (fun w' => Keep [] w w') [] hMix ?_
  have hS : Keep [] w w.drew := (Keep.refl _ _).drew
  generalize w.drew = w1 at *
  refine tk 0 ?_
  refine tk 1 ?_
  refine tk 2 ?_
  refine tk 3 ?_
  refine dr_val 4 (.int .i64 (m.state : Nat)) rfl (by decide +kernel) rfl rfl (fun w9 hS9 => val_load1 hT rfl rfl rfl ((hS9.blk h.bk (by simp)).cell rfl)) hS ?_
  by_cases hs : m.state = 0
  · have hn := hf.next hs
    have hnl : m.next < (Q ++ [haltI]).length := by simp; omega
    obtain ⟨x, hxe⟩ : ∃ x, x = (Q ++ [haltI])[m.next] := ⟨_, rfl⟩
    have hx : (Q ++ [haltI])[m.next]? = some x := by rw [List.getElem?_eq_getElem hnl, hxe]
    have hg : (Q ++ [haltI]).getD m.next (0, 0, 0, 0) = x := by rw [List.getD_eq_getElem?_getD, hx]; rfl
    obtain ⟨cb, cq, ccap, hcv, hcF, hcr⟩ := h.cd.ins.at hx
    subst hcv
    rw [hg]
    simp only [hs, decide_true, Bool.true_and]
    refine dye 5 ?_
    refine tk 6 ?_
    refine tk 7 ?_
    refine tk 8 ?_
    refine tk 9 ?_
    refine dr_val 10 (.slice (some ⟨cb, cq, none⟩) (Q ++ [haltI]).length ccap) rfl (by decide +kernel) rfl rfl (fun w9 hS9 => val_load1 hT rfl rfl rfl ((hS9.blk h.bk (by simp)).cell rfl)) hS ?_
    refine tk 11 ?_
    refine tk 12 ?_
    refine tk 13 ?_
    refine tk 14 ?_
    refine dr_val 15 (.int .i64 (m.next : Nat)) rfl (by decide +kernel) rfl rfl (fun w9 hS9 => val_load1 hT rfl rfl rfl ((hS9.blk h.bk (by simp)).cell rfl)) hS ?_
    refine dr_any 16 _ rfl (by decide +kernel) rfl rfl (fun w => val_index m.next hT rfl rfl rfl rfl rfl hnl w) ?_
    refine tk 17 ?_
    refine dr_val 18 (.int .i64 x.1) rfl (by decide +kernel) rfl rfl (fun w9 hS9 => val_load1 hT rfl rfl rfl (range_keep hcr hS9 hcF.2 (by simp) 0 _ rfl)) hS ?_
    by_cases h15 : x.1 = 15
    · refine dye 19 ?_
      refine tk 20 ?_
      refine tk 21 ?_
      refine dr_done (by decide +kernel) ?_
      refine au ?_
      exact rn_ret Tryz.func39 (.inl ⟨_, rfl, rfl⟩) ⟨by simp [h15], hS⟩
    · refine dno 19 ?_
      refine tk 20 ?_
      refine tk 21 ?_
      refine dr_done (by decide +kernel) ?_
      refine au ?_
      exact rn_ret Tryz.func39 (.inl ⟨_, rfl, rfl⟩) ⟨by simp [h15], hS⟩
  · refine dno 5 ?_
    refine dp 6 ?_
    refine dp 7 ?_
    refine dp 8 ?_
    refine dp 9 ?_
    refine dp 10 ?_
    refine dp 11 ?_
    refine dp 12 ?_
    refine dp 13 ?_
    refine dp 14 ?_
    refine dp 15 ?_
    refine dp 16 ?_
    refine dp 17 ?_
    refine dp 18 ?_
    refine dp 19 ?_
    refine dp 20 ?_
    refine dp 21 ?_
    refine dr_done (by decide +kernel) ?_
    refine au ?_
    exact rn_ret Tryz.func39 (.inl ⟨_, rfl, rfl⟩) ⟨by simp [hs], hS⟩
end
end E
end Go.Proofs.YtmplkogkphmmjafGreat

/- What the laws of package compile take of it; their first look. -/
namespace Go.Proofs.YtmplkogkphmmjafGreat
set_option maxRecDepth 20000
set_option maxHeartbeats 4000000
namespace E
open Go.Proofs

/-- What is to be shown of package compile. -/
structure MkC : Prop where
  make : ∀ {F : Nat → Prop} {w : World} {x : Value} {vs : List VarT} {body : List ST}, ProgV F w x vs body → In F w → vs.length ≤ 100000 → szSs body ≤ 100000 →
    Ret Tryz.prog 23 [x] w fun r w' => (∃ v, r = .tuple #[v, .int .i64 (progFault vs body)] ∧ InsV (fun c => w.heap.size ≤ c ∧ c < w'.heap.size) w' v (makeOf vs body)) ∧ Keep [] w w'

theorem prog_fit {vs : List VarT} {body : List ST} (h : progFault vs body = 0) : Sized vs ∧ Big vs ∧ gdSs vs.length body ∧ 0 ≤ sumV vs ∧ sumV vs ≤ 48 := by
  obtain ⟨h8, hv, k, hc⟩ := progFault_ok h
  obtain ⟨h1, h2⟩ := chkV_sizes hv
  have h3 : Big vs := fun x hx => (h1 x hx).1
  exact ⟨⟨by omega, fun x hx => by have := h1 x hx; omega⟩, h3, chkSs_gd body hc, sumV_big h3, by omega⟩

/-! ### The first look -/
def kz : List Value := [.int .i64 0, .int .i64 0, .int .i64 0, .slice none 0 0]
def ke : List Value := [.int .i64 1, .int .i64 0, .int .i64 5, .slice none 0 0]
def ks : List Value := scells 3 0 ke kz (.slice none 0 0) (.slice none 0 0)
def kE : ET := .mk 1 0 5 []
def kS : List ST := [.mk 3 0 kE zeroT [] []]
def kI : List Is := [(1, 0, 0, 5), (11, 0, 0, 0), (16, 0, 0, 0)]
theorem k_make : makeOf [] kS = kI := by kernel_rfl
theorem k_fault : progFault [] kS = 0 := by kernel_rfl
theorem built_ke : Tryz.prog.built 94 [(0, .int .i64 1), (2, .int .i64 5)] = some ke.toArray := by kernel_rfl
theorem built_ks : Tryz.prog.built 97 [(0, .int .i64 3), (2, .agg ke.toArray)] = some ks.toArray := by kernel_rfl
theorem slice_ks : sliceCells Tryz.prog 23 1 [(0, .agg ks.toArray)] = some (97, ks.toArray) := by kernel_rfl
theorem built_kp (b : Nat) : Tryz.prog.built 25 [(1, .slice (some ⟨b, 0, none⟩) 1 1)] = some [Value.slice none 0 0, .slice (some ⟨b, 0, none⟩) 1 1].toArray := by kernel_rfl

end E
end Go.Proofs.YtmplkogkphmmjafGreat

/- The document's Being: Now, NewBeing; a program's instructions are in order. -/
namespace Go.Proofs.YtmplkogkphmmjafGreat
set_option maxRecDepth 20000
set_option maxHeartbeats 4000000
namespace E
open Go.Proofs

/-! ### A program's instructions are in order -/
mutual
theorem ops_E {vs : List VarT} : ∀ (t : ET) {d k k' : Nat}, chkE vs.length t d k = .ok k' → ∀ x ∈ insE vs t, 1 ≤ x.1 ∧ x.1 ≤ 15
  | .mk op v m l, d, k, k', h, x, hx => by
    obtain ⟨hd, h1, k1, h2⟩ := chkE_inv h
    obtain ⟨a1, a2, _⟩ := ownE_inv h1
    simp only [insE, List.mem_append, List.mem_singleton] at hx
    rcases hx with hx | rfl
    · exact ops_Es l h2 x hx
    · exact ⟨a1, by show op ≤ 15; omega⟩
theorem ops_Es {vs : List VarT} : ∀ (l : List ET) {d k k' : Nat}, chkEs vs.length l d k = .ok k' → ∀ x ∈ insEs vs l, 1 ≤ x.1 ∧ x.1 ≤ 15
  | [], _, _, _, _, x, hx => by simp [insEs] at hx
  | t :: r, d, k, k', h, x, hx => by
    obtain ⟨⟨k1, h1⟩, k2, h2⟩ := chkEs_inv h
    simp only [insEs, List.mem_append] at hx
    rcases hx with hx | hx
    · exact ops_E t h1 x hx
    · exact ops_Es r h2 x hx
end
mutual
theorem ops_S {vs : List VarT} : ∀ (t : ST) {d k k' : Nat}, chkS vs.length t d k = .ok k' → ∀ (i0 : Nat), ∀ x ∈ insS vs t i0, 1 ≤ x.1 ∧ x.1 ≤ 15
  | .mk op v e f b o, d, k, k', h, i0, x, hx => by
    obtain ⟨hd, h1, h2, h3, ⟨k1, k2, h4⟩, k3, k4, h5⟩ := chkS_inv h
    have ne : ∀ x ∈ eI vs op e, 1 ≤ x.1 ∧ x.1 ≤ 15 := by
      unfold eI
      split
      · rename_i hn
        obtain ⟨_, _, hc⟩ := h2 hn
        exact ops_E e hc
      · simp
    have nf : ∀ x ∈ fI vs op f, 1 ≤ x.1 ∧ x.1 ≤ 15 := by
      unfold fI
      split
      · rename_i hn
        obtain ⟨_, _, hc⟩ := h3 hn
        exact ops_E f hc
      · simp
    have jb := fun i => ops_Ss b h4 i
    have jo := fun i => ops_Ss o h5 i
    simp only [insS] at hx
    split at hx
    · simp only [whileI, List.mem_append, List.mem_cons, List.not_mem_nil, or_false] at hx
      rcases hx with hx | rfl | hx | rfl
      · exact ne x hx
      · exact ⟨by show (1 : Int) ≤ 13; decide, by show (13 : Int) ≤ 15; decide⟩
      · exact jb _ x hx
      · exact ⟨by show (1 : Int) ≤ 14; decide, by show (14 : Int) ≤ 15; decide⟩
    · split at hx
      · simp only [ifI, List.mem_append, List.mem_cons] at hx
        rcases hx with hx | rfl | hx | rfl | hx
        · exact ne x hx
        · exact ⟨by show (1 : Int) ≤ 13; decide, by show (13 : Int) ≤ 15; decide⟩
        · exact jb _ x hx
        · exact ⟨by show (1 : Int) ≤ 14; decide, by show (14 : Int) ≤ 15; decide⟩
        · exact jo _ x hx
      · simp only [List.mem_append, List.mem_singleton] at hx
        rcases hx with hx | hx | rfl
        · exact ne x hx
        · exact nf x hx
        · unfold lastI
          (repeat' split) <;> simp
theorem ops_Ss {vs : List VarT} : ∀ (l : List ST) {d k k' : Nat}, chkSs vs.length l d k = .ok k' → ∀ (i0 : Nat), ∀ x ∈ insSs vs l i0, 1 ≤ x.1 ∧ x.1 ≤ 15
  | [], _, _, _, _, _, x, hx => by simp [insSs] at hx
  | t :: r, d, k, k', h, i0, x, hx => by
    obtain ⟨⟨k1, h1⟩, k2, h2⟩ := chkSs_inv h
    simp only [insSs, List.mem_append] at hx
    rcases hx with hx | hx
    · exact ops_S t h1 i0 x hx
    · exact ops_Ss r h2 _ x hx
end
theorem prog_prg {vs : List VarT} {body : List ST} (h : progFault vs body = 0) (hsz : szSs body ≤ 1000) : ∃ c : Nat, (c : Int) = sumV vs ∧ c ≤ 48 ∧ Prg c (insSs vs body 0) := by
  obtain ⟨_, hbig, _, h0, h48⟩ := prog_fit h
  obtain ⟨_, _, k, hc⟩ := progFault_ok h
  have e : ((sumV vs).toNat : Int) = sumV vs := by omega
  have hl := insSs_len vs body 0
  exact ⟨(sumV vs).toNat, e, by omega, by rw [e]; exact sim_Ss hbig body hc 0, by rw [e]; exact jmp_Ss hbig body hc 0, ops_Ss body hc 0, by omega, by omega⟩

/-! ### Now -/
def codeB (m : Md) (p : Pr) : Int := if p.2 then 15 else if m.state = 0 then 13 else if m.state > 1 then (m.state : Int) - 2 else 0
def resC (c : Int) (o l : Value) : List Value := [.int .i64 c, o, l]
theorem zero_re : ((Tryz.prog.info? 35).bind (·.zero)).map (·.cells) = some (resC 0 (.slice none 0 0) (.slice none 0 0)).toArray := by kernel_rfl
theorem size_re : sizeOk Tryz.prog 35 3 = true := by kernel_rfl
theorem built_re (a b : Option Addr) (n c m d : Nat) : Tryz.prog.built 35 [(1, .slice a n c), (2, .slice b m d)] = some (resC 0 (.slice a n c) (.slice b m d)).toArray := by kernel_rfl
theorem resC_one (c : Int) (a b : Option Addr) (n k m d : Nat) : ∀ u ∈ resC c (.slice a n k) (.slice b m d), u.oneCell' = true := by
  intro u hu
  simp only [resC, List.mem_cons, List.not_mem_nil, or_false] at hu
  rcases hu with rfl | rfl | rfl <;> rfl
section
variable {w0 w : World} {b : Nat} {W : List Is} {inp : List Int} {cv iv : Value} {r : Rws} {m k : Md} {p : Pr}
theorem bNow_ret (h : Bw w0 w b W inp cv iv r m k p) (hst : m.state ≤ 1000) : Ret Tryz.prog 17 [.pointer (some ⟨b, 0, none⟩)] w fun v w' => v = .agg (resC (codeB m p) r.o r.c).toArray ∧ Keep [] w w' := by
  obtain ⟨sv, cl, ks, kc, ov⟩ := r
  obtain ⟨oa, ocap, hov⟩ := h.ro.form
  obtain ⟨ca, ccap, hcl⟩ := h.rc.form
  simp only at hov hcl
  subst hov
  subst hcl
  refine ret_of 40 Tryz.func17 rfl rfl (by simp) ?_
  refine au ?_
  refine pl_op rfl rfl (opTo_allocN _ rfl zero_re ?_)
  intro w1 x2 hx2 hs1 hk1 hb1
  refine au ?_
  refine rn_draw (fun w' => Keep [] w1 w') [] hMix ?_
  have hS : Keep [] w1 w1.drew := (Keep.refl _ _).drew
  generalize w1.drew = w2 at *
  have hbk1 := hk1.blk h.bk (by simp)
  refine tk 0 ?_
  refine tk 1 ?_
  refine tk 2 ?_
  refine dr_val 3 (.slice oa p.1.length ocap) rfl (by decide +kernel) rfl rfl (fun w9 hS9 => val_load1 hT rfl rfl rfl ((hS9.blk hbk1 (by simp)).cell rfl)) hS ?_
  refine tk 4 ?_
  refine tk 5 ?_
  refine tk 6 ?_
  refine tk 7 ?_
  refine dr_val 8 (.slice ca m.cells.length ccap) rfl (by decide +kernel) rfl rfl (fun w9 hS9 => val_load1 hT rfl rfl rfl ((hS9.blk hbk1 (by simp)).cell rfl)) hS ?_
  refine dr_any 9 (.agg (resC 0 (.slice oa p.1.length ocap) (.slice ca m.cells.length ccap)).toArray) rfl (by decide +kernel) rfl rfl (fun w => val_build _ rfl rfl (built_re _ _ _ _ _ _) w) ?_
  refine dr_op 10 rfl (by decide +kernel) rfl rfl (opTo_allocN _ rfl zero_re ?_)
  intro w3 x3 hx3 hs3 hk3 hb3
  refine ⟨fun _ => hS.tr hk3, ?_⟩
  refine dr_op 11 rfl (by decide +kernel) rfl rfl (opTo_storeN (resC 0 (.slice oa p.1.length ocap) (.slice ca m.cells.length ccap)) rfl rfl rfl rfl size_re hb3 (by simp [resC]) (resC_one _ _ _ _ _ _ _) ?_)
  intro w4 hs4 hk4 hb4
  rw [splice_whole (by rfl)] at hb4
  have hk14 : Keep [] w1 w4 := hS.tr (hk3.trB hk4 (by omega))
  refine ⟨fun _ => hk14, ?_⟩
  refine dr_done (by decide +kernel) ?_
  have hbk4 := hk14.blk hbk1 (by simp)
  have hne : x2 ≠ x3 := by have := hS.size; omega
  have hx3w : w.heap.size ≤ x3 := by have := hS.size; have := hk1.size; omega
  have hk04 := hk1.tr hk14
  have hb24 := hk14.blk hb1 (by simp)
  refine rn_seq ?_
  refine rn_with (fun σ' w' => Blk w' x3 (resC (if m.state = 0 then 13 else if m.state > 1 then (m.state : Int) - 2 else 0) (.slice oa p.1.length ocap) (.slice ca m.cells.length ccap)) 35 ∧ Keep [x3] w4 w' ∧ Sub [(0, .pointer (some ⟨b, 0, none⟩)), (2, .pointer (some ⟨x2, 0, none⟩)), (3, .pointer (some ⟨x3, 0, none⟩))] σ') ?_ ?_
  rotate_left
  · intro fin
    refine au ?_
    refine pl_val _ rfl rfl (val_load1 hT rfl rfl rfl (hbk4.cell rfl)) ?_
    by_cases h0 : m.state = 0
    · rw [if_pos h0] at fin
      refine ye ?_
      refine au ?_
      refine pl_op rfl rfl (opTo_storeN [.int .i64 13] rfl rfl rfl rfl size_in hb4 (by simp [resC]) (one_in _) ?_)
      intro w5 hs5 hk5 hb5
      refine auj ?_
      exact fin _ _ ⟨hb5, hk5, rfl, rfl, rfl, trivial⟩
    · rw [if_neg h0] at fin
      refine nay ?_
      refine au ?_
      refine pl_val _ rfl rfl (val_load1 hT rfl rfl rfl (hbk4.cell rfl)) ?_
      by_cases h1 : m.state > 1
      · rw [if_pos h1] at fin
        refine ye ?_
        refine au ?_
        refine pl_val _ rfl rfl (val_load1 hT rfl rfl rfl (hbk4.cell rfl)) ?_
        refine pl_num (-2 + (m.state : Int)) rfl rfl rfl rfl rfl (by simp only [ariP]; omega) ?_
        refine au ?_
        refine pl_op rfl rfl (opTo_storeN [.int .i64 (-2 + (m.state : Int))] rfl rfl rfl rfl size_in hb4 (by simp [resC]) (one_in _) ?_)
        intro w5 hs5 hk5 hb5
        refine auj ?_
        have e2 : (m.state : Int) - 2 = -2 + (m.state : Int) := by omega
        rw [e2] at fin
        exact fin _ _ ⟨hb5, hk5, rfl, rfl, rfl, trivial⟩
      · rw [if_neg h1] at fin
        refine nay ?_
        refine auj ?_
        exact fin _ _ ⟨hb4, Keep.refl _ _, rfl, rfl, rfl, trivial⟩
  clear hb4
  rintro σ' w5 ⟨hb5, hk5, hsub⟩
  refine rn_sub hsub ?_
  have hbk5 := hk5.blk hbk4 (by simp; have := h.bk.lt; omega)
  have hb25 := hk5.blk hb24 (by simpa using hne)
  refine rn_seq ?_
  refine rn_with (fun σ' w' => Blk w' x3 (resC (codeB m p) (.slice oa p.1.length ocap) (.slice ca m.cells.length ccap)) 35 ∧ Keep [x3] w4 w' ∧ Sub [(2, .pointer (some ⟨x2, 0, none⟩)), (3, .pointer (some ⟨x3, 0, none⟩))] σ') ?_ ?_
  rotate_left
  · intro fin
    refine au ?_
    refine pl_val _ rfl rfl (val_load1 hT rfl rfl rfl (hbk5.cell rfl)) ?_
    cases hp : p.2 with
    | false =>
      have hcd : codeB m p = (if m.state = 0 then 13 else if m.state > 1 then (m.state : Int) - 2 else 0) := by unfold codeB; rw [hp, if_neg (by decide)]
      refine auj ?_
      exact fin _ _ ⟨by rw [hcd]; exact hb5, hk5, rfl, rfl, trivial⟩
    | true =>
      have hcd : codeB m p = 15 := by unfold codeB; rw [hp, if_pos rfl]
      refine au ?_
      refine pl_op rfl rfl (opTo_storeN [.int .i64 15] rfl rfl rfl rfl size_in hb5 (by simp [resC]) (one_in _) ?_)
      intro w6 hs6 hk6 hb6
      refine auj ?_
      exact fin _ _ ⟨by rw [hcd]; exact hb6, hk5.tr hk6, rfl, rfl, trivial⟩
  rintro σ' w6 ⟨hb6, hk6, hsub⟩
  refine rn_sub hsub ?_
  have hb26 := hk6.blk hb24 (by simpa using hne)
  refine au ?_
  refine pl_val (.agg (resC (codeB m p) (.slice oa p.1.length ocap) (.slice ca m.cells.length ccap)).toArray) rfl rfl (val_load (resC (codeB m p) (.slice oa p.1.length ocap) (.slice ca m.cells.length ccap)) hT rfl rfl rfl (hb6.range (by rfl))) ?_
  refine pl_op rfl rfl (opTo_storeN (resC (codeB m p) (.slice oa p.1.length ocap) (.slice ca m.cells.length ccap)) rfl rfl rfl rfl size_re hb26 (by simp [resC]) (resC_one _ _ _ _ _ _ _) ?_)
  intro w7 hs7 hk7 hb7
  rw [splice_whole (by rfl)] at hb7
  refine au ?_
  exact rn_ret Tryz.func17 (.inr (.inr (.inl ⟨_, _, _, rfl, rfl, blk_loadVar hT hb7 rfl⟩))) ⟨rfl, (hk04.trB hk6 hx3w).trB hk7 (by omega)⟩
end
end E
end Go.Proofs.YtmplkogkphmmjafGreat

/- The document's Being: NewBeing. -/
namespace Go.Proofs.YtmplkogkphmmjafGreat
set_option maxRecDepth 20000
set_option maxHeartbeats 4000000
namespace E
open Go.Proofs

theorem built_md (a : Option Addr) (n c : Nat) : Tryz.prog.built tMd [(5, .slice a n c)] = some (mC ⟨0, [], 0, 0, 0, []⟩ (.slice none 0 0) (.slice a n c)).toArray := by kernel_rfl
theorem lgs_rep (c : Nat) : lgs (List.replicate c 0) = List.replicate c (Value.int .i64 0) := by simp [lgs]
theorem built_bg (ca ia sa la ka ta : Option Addr) (c1 c2 i1 i2 s1 s2 l1 l2 k1 k2 t1 t2 : Nat) (m k : Md) :
    Tryz.prog.built tBe [(0, .slice ca c1 c2), (1, .slice ia i1 i2), (2, .agg (mC m (.slice sa s1 s2) (.slice la l1 l2)).toArray), (3, .agg (mC k (.slice ka k1 k2) (.slice ta t1 t2)).toArray)] =
      some (beC (.slice ca c1 c2) (.slice ia i1 i2) m k ([], false) ⟨.slice sa s1 s2, .slice la l1 l2, .slice ka k1 k2, .slice ta t1 t2, .slice none 0 0⟩).toArray := by
  obtain ⟨a1, a2, a3, a4, a5, a6⟩ := m
  obtain ⟨b1, b2, b3, b4, b5, b6⟩ := k
  kernel_rfl

theorem newBeing_ret {F : Nat → Prop} {w : World} {x iv : Value} {vs : List VarT} {body : List ST} {inp : List Int} {c : Nat} (h : ProgV F w x vs body) (hF : In F w) (hi : LsV w iv inp) (hpf : progFault vs body = 0) (hsz : szSs body ≤ 1000) (hc : (c : Int) = sumV vs) (hc48 : c ≤ 48) :
    Ret Tryz.prog 12 [x, iv] w fun v w' => ∃ b cv r, v = .pointer (some ⟨b, 0, none⟩) ∧ Bw w w' b (insP vs body) inp cv iv r (mind0 c) (mind0 c) ([], false) := by
  obtain ⟨hfit, hbig, hgd, _, _⟩ := prog_fit hpf
  have hh := h
  obtain ⟨vv, bv, rfl, hv, hb⟩ := h
  obtain ⟨av, capv, rfl⟩ := hv.form
  obtain ⟨ab, capb, rfl⟩ := hb.form
  have hi' := hi
  obtain ⟨ia, icap, rfl, _⟩ := hi'
  refine ret_of 21 Tryz.func12 rfl rfl (by simp) ?_
  refine au ?_
  refine pl_op rfl rfl (opTo_boxN [.slice av vs.length capv, .slice ab body.length capb] rfl rfl rfl ?_)
  intro w1 x2 hx2 hs1 hk1 hb1
  refine au ?_
  refine pl_val (.agg #[.slice av vs.length capv, .slice ab body.length capb]) rfl rfl (val_load [.slice av vs.length capv, .slice ab body.length capb] hT rfl rfl rfl (hb1.range (by rfl))) ?_
  refine au ?_
  refine pl_val _ rfl rfl (val_load1 hT rfl rfl rfl (hb1.cell rfl)) ?_
  refine au ?_
  refine pl_op rfl rfl (opTo_call (fst := []) (cap := []) rfl rfl rfl rfl (by decide +kernel) ((refCell_ret (hh.keep hk1 hF.stays) (hF.keep hk1) hfit (vs.length : Nat)).mono ?_))
  rintro r w2 ⟨rfl, hk2⟩
  have hce : cellOf vs (vs.length : Nat) = ((c : Nat) : Int) := by
    unfold cellOf
    rw [Int.toNat_natCast, List.take_length, hc]
  rw [hce]
  refine pl_op rfl rfl (opTo_makeI tLg c rfl rfl rfl (by decide +kernel) (by omega) ?_)
  intro w3 g hg hs3 hk3 hb3
  refine pl_val _ rfl rfl (val_build _ rfl rfl (built_md _ _ _) w3) ?_
  refine pl_op rfl rfl (opTo_allocN _ rfl zero_md ?_)
  intro w4 x5 hx5 hs4 hk4 hb4
  refine pl_op rfl rfl (opTo_storeN (mC ⟨0, [], 0, 0, 0, []⟩ (.slice none 0 0) (.slice (some ⟨g, 0, none⟩) c c)) rfl rfl rfl rfl size_md hb4 (by simp [mC]) (mC_one rfl rfl) ?_)
  intro w5 hs5 hk5 hb5
  rw [splice_whole (by rfl)] at hb5
  have hk35 : Keep [] w3 w5 := hk4.trB hk5 (by omega)
  have hk05 : Keep [] w w5 := ((hk1.tr hk2).tr hk3).tr hk35
  have hgb : w.heap.size ≤ g := by have := hk1.size; have := hk2.size; omega
  have hg5 := hk35.blk hb3 (by simp)
  have hrow : RowL w5 w.heap.size (.slice (some ⟨g, 0, none⟩) c c) (List.replicate c 0) := ⟨by simp [lgs], .inr ⟨g, c, _, by simp, hgb, hg5, by simp, by simp, by rw [lgs_rep]; simp⟩⟩
  have hb15 := ((hk2.tr hk3).tr hk35).blk hb1 (by simp)
  refine au ?_
  refine rn_draw (fun w' => Keep [] w5 w') [] hMix ?_
  have hS : Keep [] w5 w5.drew := (Keep.refl _ _).drew
  generalize w5.drew = w6 at *
  refine dr_val 0 (.agg #[.slice av vs.length capv, .slice ab body.length capb]) rfl (by decide +kernel) rfl rfl (fun w9 hS9 => val_load [.slice av vs.length capv, .slice ab body.length capb] hT rfl rfl rfl ((hS9.blk hb15 (by simp)).range (by rfl))) hS ?_
  refine tk 2 ?_
  refine dr_val 3 (.agg (mC ⟨0, [], 0, 0, 0, []⟩ (.slice none 0 0) (.slice (some ⟨g, 0, none⟩) c c)).toArray) rfl (by decide +kernel) rfl rfl (fun w9 hS9 => val_load (mC ⟨0, [], 0, 0, 0, []⟩ (.slice none 0 0) (.slice (some ⟨g, 0, none⟩) c c)) hT rfl rfl rfl ((hS9.blk hb5 (by simp)).range (by rfl))) hS ?_
  refine dr_val 4 (.agg (mC (mind0 c) (.slice none 0 0) (.slice (some ⟨g, 0, none⟩) c c)).toArray) rfl (by decide +kernel) rfl rfl (fun w9 hS9 => val_load (mC (mind0 c) (.slice none 0 0) (.slice (some ⟨g, 0, none⟩) c c)) hT rfl rfl rfl ((hS9.blk hb5 (by simp)).range (by rfl))) hS ?_
  have hk06 := hk05.tr hS
  refine dr_op 1 rfl (by decide +kernel) rfl rfl (opTo_call (fst := []) (cap := []) rfl rfl rfl rfl (by decide +kernel) ((codeOf_ret (hh.keep hk06 hF.stays) (hF.keep hk06) hfit hgd (by omega)).mono ?_))
  rintro cv w7 ⟨hcd, hk7⟩
  refine ⟨fun _ => hS.tr hk7, ?_⟩
  have hk57 := hS.tr hk7
  have hrow7 := hrow.keep hk57 fun _ _ => by simp
  refine dr_op 5 rfl (by decide +kernel) rfl rfl (opTo_call (fst := []) (cap := []) rfl rfl rfl rfl (by decide +kernel) ((mindCopy_ret (m := mind0 c) (s := .slice none 0 0) (c := .slice (some ⟨g, 0, none⟩) c c) ⟨none, 0, rfl, fun h => absurd h (by simp [mind0])⟩ hrow7.lies (by simp [mind0]; omega)).mono ?_))
  rintro v w8 ⟨s', c', rfl, hrs, hrc, hap, hk8⟩
  refine ⟨fun _ => hk57.tr hk8, ?_⟩
  have hk58 := hk57.tr hk8
  obtain ⟨ka, kcap, rfl⟩ := hrs.form
  obtain ⟨ta, tcap, rfl⟩ := hrc.form
  obtain ⟨ca, ccap, rfl⟩ := hcd.form
  obtain ⟨R, hR⟩ : ∃ R : Rws, R = ⟨.slice none 0 0, .slice (some ⟨g, 0, none⟩) c c, .slice ka (mind0 c).stack.length kcap, .slice ta (mind0 c).cells.length tcap, .slice none 0 0⟩ := ⟨_, rfl⟩
  refine dr_any 6 (.agg (beC (.slice ca (insP vs body).length ccap) (.slice ia inp.length icap) (mind0 c) (mind0 c) ([], false) R).toArray) rfl (by decide +kernel) rfl rfl (fun w => by rw [hR]; exact val_build _ rfl rfl (built_bg _ _ _ _ _ _ _ _ _ _ _ _ _ _ _ _ _ _ (mind0 c) (mind0 c)) w) ?_
  refine dr_op 7 rfl (by decide +kernel) rfl rfl (opTo_boxN (beC (.slice ca (insP vs body).length ccap) (.slice ia inp.length icap) (mind0 c) (mind0 c) ([], false) R) rfl rfl rfl ?_)
  intro w9 b hb9 hs9 hk9 hB9
  refine ⟨fun _ => hk58.tr hk9, ?_⟩
  refine tk 8 ?_
  refine dr_done (by decide +kernel) ?_
  refine au ?_
  refine rn_ret Tryz.func12 (.inl ⟨_, rfl, rfl⟩) ⟨b, .slice ca (insP vs body).length ccap, R, rfl, ?_⟩
  have hk89 : Keep [] w w9 := (hk05.tr hk58).tr hk9
  have low : ∀ {B : Nat} {v : Value} {l : List Int}, RowL w9 B v l → w.heap.size ≤ B → RowL w9 w.heap.size v l := fun {B v l} hv hB => by
    refine ⟨hv.1, ?_⟩
    rcases hv.2 with h0 | ⟨g, cap, cur, e1, e2, e3⟩
    · exact .inl h0
    · exact .inr ⟨g, cap, cur, e1, Nat.le_trans hB e2, e3⟩
  have hr9 := hrow.keep (hk58.tr hk9) fun _ _ => by simp
  have hs9' := hrs.keep hk9 fun _ _ => by simp
  have hc9' := hrc.keep hk9 fun _ _ => by simp
  have hw7 : w.heap.size ≤ w7.heap.size := (hk05.tr hk57).size
  have hg7 : g < w7.heap.size := Nat.lt_of_lt_of_le hg5.lt hk57.size
  have nilL : ∀ k, k ∉ obs (.slice none 0 0) := fun k hk => by simp [obs, Value.ownBlock] at hk
  have nil2 : ∀ {v : Value}, Apt (.slice none 0 0) v := fun {v} k hk => absurd hk (nilL k)
  have nil3 : ∀ {v : Value}, Apt v (.slice none 0 0) := fun {v} k _ => nilL k
  have gn : ∀ {v : Value} {l : List Int}, RowL w8 w7.heap.size v l → Apt (.slice (some ⟨g, 0, none⟩) c c) v := fun {v l} hv k hk hm => by
    have : k = g := by simpa [obs, Value.ownBlock] using hk
    have := (hv.lt k hm).1
    omega
  rw [hR] at hB9 ⊢
  exact ⟨hk89, by have := hk05.size; have := hk58.size; omega, hB9, ((hcd.keep0 hk8).keep0 hk9).lower (by have := hk06.size; omega), hi, RowL.nil _ _, by simpa [mind0] using hr9, low hs9' hw7, low hc9' hw7, RowL.nil _ _, ⟨nil2, nil2, nil2, nil2, gn hrs, gn hrc, nil3, hap, nil3, nil3⟩⟩
end E
end Go.Proofs.YtmplkogkphmmjafGreat

/- What the laws of package ideal take of it; their first look. -/
namespace Go.Proofs.YtmplkogkphmmjafGreat
set_option maxRecDepth 20000
set_option maxHeartbeats 4000000
namespace E
open Go.Proofs

/-- What Run tells: the Result's code, what was printed, the cells; how many instructions; a code. -/
structure Told where
  code : Int
  out : List Int
  cells : List Int
  used : Int
  fault : Int
def toldX (r : Nat × List Int × List Int × Nat) : Told := ⟨r.1, r.2.1, r.2.2.1, r.2.2.2, 0⟩
def saysX (vs : List VarT) (body : List ST) (inp : List Int) (fuel : Nat) : Ex Es := evP vs inp fuel body (es0 (sumV vs).toNat)
def runI (vs : List VarT) (body : List ST) (inp : List Int) (fuel : Int) : Told :=
  if progFault vs body = 0 then (if inp.length ≤ 40 ∧ 0 ≤ fuel ∧ fuel ≤ 3000 then toldX (resX (saysX vs body inp fuel.toNat)) else ⟨0, [], [], 0, 1⟩) else ⟨0, [], [], 0, progFault vs body⟩
/-- A list of numbers that lies there, and has as much room as it has numbers. -/
def LsC (w : World) (v : Value) (l : List Int) : Prop := LsV w v l ∧ ∀ a n cap, v = .slice a n cap → n ≤ cap
theorem LsC.keep0 {w w' : World} {v : Value} {l : List Int} (h : LsC w v l) (hk : Keep [] w w') : LsC w' v l := ⟨h.1.keep0 hk, h.2⟩
/-- It lies in memory that was not there in w. -/
def Nw (w : World) (v : Value) : Prop := ∀ b q n c, v = .slice (some ⟨b, q, none⟩) n c → 0 < n → w.heap.size ≤ b
/-- What is to be shown of package ideal. -/
structure IdC : Prop where
  run : ∀ {F : Nat → Prop} {w : World} {x iv : Value} {vs : List VarT} {body : List ST} {inp : List Int} (fuel : Int), ProgV F w x vs body → In F w → LsC w iv inp → vs.length ≤ 100000 → szSs body ≤ 1000 → inp.length ≤ 100000 →
    Ret Tryz.prog 18 [x, iv, .int .i64 fuel] w fun r w' => (∃ ov cv, r = .tuple #[.agg (resC (runI vs body inp fuel).code ov cv).toArray, .int .i64 (runI vs body inp fuel).used, .int .i64 (runI vs body inp fuel).fault] ∧ LsC w' ov (runI vs body inp fuel).out ∧ LsV w' cv (runI vs body inp fuel).cells ∧ Nw w ov ∧ Nw w cv) ∧ Keep [] w w'

/-- How far a run comes. -/
theorem says_at {vs : List VarT} {body : List ST} (h : progFault vs body = 0) (hsz : szSs body ≤ 1000) (inp : List Int) (fuel : Nat) :
    ∃ n m out, n ≤ fuel ∧ pu (insP vs body) inp (sumV vs).toNat n = (m, (out, false)) ∧ (∀ k < n, (pu (insP vs body) inp (sumV vs).toNat k).1.state = 0) ∧ (n = fuel ∨ m.state ≠ 0) ∧ m.state ≤ 14 ∧ m.cells.length ≤ 48 ∧ out.length ≤ n ∧
      resX (saysX vs body inp fuel) = (if m.state = 0 then 13 else if m.state = 1 then 0 else m.state - 2, out, m.cells, n) := by
  obtain ⟨n, m, out, h1, ⟨h2, h3⟩, h4, h5⟩ := runP h inp fuel (sumV vs).toNat
  have h2 : pu (insP vs body) inp (sumV vs).toNat n = (m, (out, false)) := h2
  obtain ⟨c, hc, h48, hP⟩ := prog_prg h hsz
  have hcc : c = (sumV vs).toNat := by omega
  have hf := pu_fit (inp := inp) hP.sim hP.jmp n
  rw [hcc, show insSs vs body 0 ++ [haltI] = insP vs body from rfl, h2] at hf
  obtain ⟨b1, b2, b3⟩ := pu_bounds (W := insP vs body) (inp := inp) (c := (sumV vs).toNat) n
  rw [h2] at b2 b3
  have hcl := hf.cells
  exact ⟨n, m, out, h1, h2, h3, h4, b3, by have : (m.cells.length : Int) = ((sumV vs).toNat : Int) := hcl; omega, b2, h5⟩
theorem runI_bnd {vs : List VarT} {body : List ST} (hsz : szSs body ≤ 1000) (inp : List Int) (fuel : Int) : (runI vs body inp fuel).out.length ≤ 3000 ∧ (runI vs body inp fuel).cells.length ≤ 48 := by
  unfold runI
  split
  · rename_i h
    split
    · obtain ⟨n, m, out, h1, _, _, _, _, h5, h6, h7⟩ := says_at h hsz inp fuel.toNat
      rw [h7]
      exact ⟨by show out.length ≤ 3000; omega, h5⟩
    · exact ⟨by simp, by simp⟩
  · exact ⟨by simp, by simp⟩
theorem runI_in {vs : List VarT} {body : List ST} {inp : List Int} {fuel : Int} (h : progFault vs body = 0) (hi : inp.length ≤ 40) (h0 : 0 ≤ fuel) (h3 : fuel ≤ 3000) : runI vs body inp fuel = toldX (resX (saysX vs body inp fuel.toNat)) := by
  unfold runI
  rw [if_pos h, if_pos ⟨hi, h0, h3⟩]
theorem runI_not {vs : List VarT} {body : List ST} {inp : List Int} {fuel : Int} (h : ¬ progFault vs body = 0) : runI vs body inp fuel = ⟨0, [], [], 0, progFault vs body⟩ := by
  unfold runI
  rw [if_neg h]
theorem runI_off {vs : List VarT} {body : List ST} {inp : List Int} {fuel : Int} (h : progFault vs body = 0) (hi : ¬ (inp.length ≤ 40 ∧ 0 ≤ fuel ∧ fuel ≤ 3000)) : runI vs body inp fuel = ⟨0, [], [], 0, 1⟩ := by
  unfold runI
  rw [if_pos h, if_neg hi]
theorem toldX_fault (r : Nat × List Int × List Int × Nat) : (toldX r).fault = 0 := rfl

/-! ### The first look -/
def jz : List Value := [.int .i64 0, .int .i64 0, .int .i64 0, .slice none 0 0]
def je : List Value := [.int .i64 1, .int .i64 0, .int .i64 5, .slice none 0 0]
def js : List Value := scells 3 0 je jz (.slice none 0 0) (.slice none 0 0)
def jE : ET := .mk 1 0 5 []
def jS : List ST := [.mk 3 0 jE zeroT [] []]
theorem built_je : Tryz.prog.built 94 [(0, .int .i64 1), (2, .int .i64 5)] = some je.toArray := by kernel_rfl
theorem built_js : Tryz.prog.built 97 [(0, .int .i64 3), (2, .agg je.toArray)] = some js.toArray := by kernel_rfl
theorem slice_js : sliceCells Tryz.prog 23 1 [(0, .agg js.toArray)] = some (97, js.toArray) := by kernel_rfl
theorem built_jp (b : Nat) : Tryz.prog.built 25 [(1, .slice (some ⟨b, 0, none⟩) 1 1)] = some [Value.slice none 0 0, .slice (some ⟨b, 0, none⟩) 1 1].toArray := by kernel_rfl
theorem built_j0 : Tryz.prog.built 25 [] = some [Value.slice none 0 0, .slice none 0 0].toArray := by kernel_rfl
theorem j_run : runI [] jS [] 9 = ⟨0, [5], [], 3, 0⟩ := by kernel_rfl
theorem j_none : runI [] [] [] 0 = ⟨13, [], [], 0, 0⟩ := by kernel_rfl
theorem ls_nil (w : World) : LsC w (.slice none 0 0) [] := ⟨⟨none, 0, rfl, fun h => absurd h (by simp)⟩, fun a n cap h => by injection h with h1 h2 h3; omega⟩

end E
end Go.Proofs.YtmplkogkphmmjafGreat

/- The document's Begins and Ideal. -/
namespace Go.Proofs.YtmplkogkphmmjafGreat
set_option maxRecDepth 20000
set_option maxHeartbeats 4000000
namespace E
open Go.Proofs

theorem LsV.first {w : World} {a : Option Addr} {n cap : Nat} {l k : List Int} (h : LsV w (.slice a n cap) l) (hp : k <+: l) : LsV w (.slice a k.length cap) k := by
  obtain ⟨a', cap', hv, hr⟩ := h
  cases hv
  obtain ⟨r, rfl⟩ := hp
  refine ⟨a, cap, rfl, fun h0 => ?_⟩
  obtain ⟨b, q, h1, h2, h3⟩ := hr (by rw [List.length_append]; omega)
  refine ⟨b, q, h1, h2, fun j u hu => h3 j u ?_⟩
  rw [lgs_app, List.getElem?_append_left (List.getElem?_eq_some_iff.1 hu).1]
  exact hu
theorem begins_ret {w : World} {u v : Value} {l n : List Int} (hu : LsV w u l) (hv : LsC w v n) (hp : l <+: n) (hl : l.length ≤ 1000000) : Ret Tryz.prog 19 [u, v] w fun r w' => r = .bool true ∧ Keep [] w w' := by
  have hle := hp.length_le
  have hu' := hu
  obtain ⟨ua, uc, rfl, _⟩ := hu
  obtain ⟨hv1, hvc⟩ := hv
  have hv' := hv1
  obtain ⟨va, vc, rfl, _⟩ := hv1
  have hcap := hvc _ _ _ rfl
  refine ret_of 18 Tryz.func19 rfl rfl (by simp) ?_
  refine au ?_
  refine ye ?_
  refine au ?_
  refine pl_val _ rfl rfl (val_sliceTo l.length hT rfl rfl rfl rfl rfl (by omega) w) ?_
  refine pl_op rfl rfl (opTo_call (fst := []) (cap := []) rfl rfl rfl rfl (by decide +kernel) ((sameLs_ret hu' (hv'.first hp) hl).mono ?_))
  rintro r w1 ⟨rfl, hk1⟩
  refine au ?_
  exact rn_ret Tryz.func19 (.inl ⟨_, rfl, rfl⟩) ⟨rfl, hk1⟩
theorem codeB_nat (m : Md) (p : Pr) (h : p.2 = false) : codeB m p = (((if m.state = 0 then 13 else if m.state = 1 then 0 else m.state - 2 : Nat)) : Int) := by
  unfold codeB
  rw [h]
  simp only [Bool.false_eq_true, if_false]
  split
  · rfl
  · split
    · rw [if_neg (by omega)]; omega
    · rw [if_pos (by omega)]; rfl
end E
end Go.Proofs.YtmplkogkphmmjafGreat

/- What the laws of package life take of it; small functions of theirs. -/
namespace Go.Proofs.YtmplkogkphmmjafGreat
set_option maxRecDepth 20000
set_option maxHeartbeats 4000000
namespace E
open Go.Proofs

def spC (s : Sp) : List Value := [.int .i64 s.1, .int .i64 s.2.1, .int .i64 s.2.2.1, .int .u64 (s.2.2.2 : Nat)]
theorem spC_length (s : Sp) : (spC s).length = 4 := rfl
theorem spC_one (s : Sp) : ∀ u ∈ spC s, u.oneCell' = true := by
  intro u hu
  simp only [spC, List.mem_cons, List.not_mem_nil, or_false] at hu
  rcases hu with rfl | rfl | rfl | rfl <;> rfl
/-- Steps that lie there. -/
def SpV (w : World) (v : Value) (l : List Sp) : Prop := ∃ a cap, v = .slice a l.length cap ∧ (0 < l.length → ∃ b q, a = some ⟨b, q, none⟩ ∧ b < w.heap.size ∧ w.rangeAt b q (l.flatMap spC))
section
variable {w w' : World} {v : Value} {l : List Sp}
theorem SpV.form (h : SpV w v l) : ∃ a cap, v = .slice a l.length cap := let ⟨a, cap, h, _⟩ := h; ⟨a, cap, h⟩
theorem SpV.keep0 (h : SpV w v l) (hk : Keep [] w w') : SpV w' v l := by
  obtain ⟨a, cap, h1, h2⟩ := h
  refine ⟨a, cap, h1, fun h0 => ?_⟩
  obtain ⟨b, q, h3, h4, h5⟩ := h2 h0
  exact ⟨b, q, h3, Nat.lt_of_lt_of_le h4 hk.size, range_keep h5 hk h4 (by simp)⟩
theorem SpV.at (h : SpV w v l) {i : Nat} {s : Sp} (hs : l[i]? = some s) : ∃ b q cap, v = .slice (some ⟨b, q, none⟩) l.length cap ∧ w.rangeAt b (q + i * 4) (spC s) := by
  have hi := (List.getElem?_eq_some_iff.1 hs).1
  obtain ⟨a, cap, h1, h2⟩ := h
  obtain ⟨b, q, rfl, h4, h5⟩ := h2 (by omega)
  refine ⟨b, q, cap, h1, fun j u hu => ?_⟩
  have hf := flat_at (f := spC) (k := 4) (fun p _ => spC_length p) hs
  have hj : j < 4 := by
    have := (List.getElem?_eq_some_iff.1 hu).1
    rwa [spC_length] at this
  rw [← hf, List.getElem?_take, if_pos hj, List.getElem?_drop] at hu
  have := h5 (i * 4 + j) u hu
  rwa [← Nat.add_assoc] at this
end

/-- New's code. -/
def newF (vs : List VarT) (body : List ST) (inp : List Int) : Int := if progFault vs body = 0 then (if inp.length ≤ 40 then 0 else 1) else progFault vs body
def lz0 (c : Nat) : Lz := ⟨lf0 c, List.replicate 112 0, List.replicate 112 0, 0⟩
/-- A life that is somewhere in the life without crashes, by so many instructions at most. -/
def InvZ (vs : List VarT) (body : List ST) (inp : List Int) (z : Lz) (i : Nat) : Prop := (0 ≤ z.gen ∧ z.gen ≤ (i : Int)) ∧ ∃ g, g ≤ i ∧ InvL (insP vs body) inp (sumV vs).toNat z.lf g
/-- A step; nothing, if it has a fault. -/
def doZS (nw : List Is → List Int → Md → List Int → List Int) (L : List Is) (inp : List Int) (s : Sp) (z : Lz) : Lz × Nat := if spFault s = 0 then doZ nw L inp s.1 s.2.1.toNat (spKeep s) z else (z, 0)
/-- What Run tells. -/
def runF (vs : List VarT) (body : List ST) (inp : List Int) (l : List Sp) (fuel : Int) : Told :=
  if l.length ≤ 100 then (if newF vs body inp = 0 then (if badL l = 0 then (if 0 ≤ fuel ∧ fuel ≤ 3000 then
    (let x := (runL (insP vs body) inp fuel.toNat (livesL (insP vs body) inp l (lf0 (sumV vs).toNat))).1
     ⟨codeB x.m x.p, x.p.1, x.m.cells, 0, 0⟩) else ⟨0, [], [], 0, 1⟩) else ⟨0, [], [], 0, badL l⟩) else ⟨0, [], [], 0, newF vs body inp⟩) else ⟨0, [], [], 0, 3⟩
/-- What is to be shown of package life. LV: a life that lies at y, with the blocks that are its own (from B on). -/
structure LfI (nw : List Is → List Int → Md → List Int → List Int) (LV : List VarT → List ST → List Int → Nat → World → Nat → List Nat → Lz → Prop) : Prop where
  lt : ∀ {vs : List VarT} {body : List ST} {inp : List Int} {B : Nat} {w : World} {y : Nat} {fp : List Nat} {z : Lz}, LV vs body inp B w y fp z → ∀ k ∈ fp, B ≤ k ∧ k < w.heap.size
  keep : ∀ {vs : List VarT} {body : List ST} {inp : List Int} {B : Nat} {w w' : World} {y : Nat} {fp fp2 : List Nat} {z : Lz}, LV vs body inp B w y fp z → Keep fp2 w w' → (∀ k ∈ fp2, k ∉ fp) → LV vs body inp B w' y fp z
  new : ∀ {F : Nat → Prop} {w : World} {x iv : Value} {vs : List VarT} {body : List ST} {inp : List Int}, ProgV F w x vs body → In F w → LsC w iv inp → vs.length ≤ 100000 → szSs body ≤ 1000 → inp.length ≤ 100000 →
    Ret Tryz.prog 8 [x, iv] w fun r w' => (∃ pv, r = .tuple #[pv, .int .i64 (newF vs body inp)] ∧ (newF vs body inp = 0 → ∃ y fp, pv = .pointer (some ⟨y, 0, none⟩) ∧ LV vs body inp w.heap.size w' y fp (lz0 (sumV vs).toNat))) ∧ Keep [] w w'
  does : ∀ {vs : List VarT} {body : List ST} {inp : List Int} {B i : Nat} {w : World} {y : Nat} {fp : List Nat} {z : Lz} (s : Sp), LV vs body inp B w y fp z → InvZ vs body inp z i → i ≤ 300000 → progFault vs body = 0 → szSs body ≤ 1000 → inp.length ≤ 40 → s.2.1 < 9223372036854775808 → s.2.2.1 < 9223372036854775808 → s.2.2.2 < 18446744073709551616 →
    Ret Tryz.prog 13 [.pointer (some ⟨y, 0, none⟩), .agg (spC s).toArray] w fun r w' => r = .tuple #[.int .i64 ((doZS nw (insP vs body) inp s z).2 : Nat), .int .i64 (spFault s)] ∧ ∃ fp', LV vs body inp B w' y fp' (doZS nw (insP vs body) inp s z).1 ∧ Keep fp w w' ∧ ∀ k ∈ fp', k ∈ fp ∨ w.heap.size ≤ k
  now : ∀ {vs : List VarT} {body : List ST} {inp : List Int} {B i : Nat} {w : World} {y : Nat} {fp : List Nat} {z : Lz}, LV vs body inp B w y fp z → InvZ vs body inp z i → i ≤ 300000 → progFault vs body = 0 → szSs body ≤ 1000 →
    Ret Tryz.prog 16 [.pointer (some ⟨y, 0, none⟩)] w fun r w' => (∃ ov cv, r = .agg (resC (codeB z.lf.m z.lf.p) ov cv).toArray ∧ LsC w' ov z.lf.p.1 ∧ LsV w' cv z.lf.m.cells ∧ Nw w ov ∧ Nw w cv) ∧ Keep [] w w'
  mach : ∀ {vs : List VarT} {body : List ST} {inp : List Int} {B : Nat} {w : World} {y : Nat} {fp : List Nat} {z : Lz}, LV vs body inp B w y fp z → ∃ x m s, w.cell? ⟨y, 0, none⟩ = some (.pointer (some ⟨x, 0, none⟩)) ∧ w.cell? ⟨x, 0, none⟩ = some (.pointer (some ⟨m, 0, none⟩)) ∧ w.cell? ⟨m, 0, none⟩ = some (.pointer (some ⟨s, 0, none⟩))
  commits : ∀ {vs : List VarT} {body : List ST} {inp : List Int} {B i : Nat} {w : World} {y x : Nat} {fp : List Nat} {z : Lz}, LV vs body inp B w y fp z → InvZ vs body inp z i → i ≤ 300000 → progFault vs body = 0 → szSs body ≤ 1000 → w.cell? ⟨y, 0, none⟩ = some (.pointer (some ⟨x, 0, none⟩)) →
    Ret Tryz.prog 61 [.pointer (some ⟨x, 0, none⟩)] w fun r w' => r = .bool (comB (insP vs body) z.lf.m) ∧ Keep [] w w'
  run : ∀ {F : Nat → Prop} {w : World} {x iv lv : Value} {vs : List VarT} {body : List ST} {inp : List Int} {l : List Sp} (fuel : Int), ProgV F w x vs body → In F w → LsC w iv inp → SpV w lv l → vs.length ≤ 100000 → szSs body ≤ 1000 → inp.length ≤ 100000 → l.length ≤ 100000 → (∀ s ∈ l, s.2.1 < 9223372036854775808 ∧ s.2.2.1 < 9223372036854775808 ∧ s.2.2.2 < 18446744073709551616) → nSum l ≤ 6000 →
    Ret Tryz.prog 10 [x, iv, lv, .int .i64 fuel] w fun r w' => (∃ ov cv, r = .tuple #[.agg (resC (runF vs body inp l fuel).code ov cv).toArray, .int .i64 (runF vs body inp l fuel).fault] ∧ LsV w' ov (runF vs body inp l fuel).out ∧ LsV w' cv (runF vs body inp l fuel).cells ∧ Nw w ov ∧ Nw w cv) ∧ Keep [] w w'
section
variable {nw : List Is → List Int → Md → List Int → List Int} {LV : List VarT → List ST → List Int → Nat → World → Nat → List Nat → Lz → Prop} {vs : List VarT} {body : List ST} {inp : List Int} {B : Nat} {w w' w0 : World} {y : Nat} {fp : List Nat} {z : Lz}
theorem LfI.keep0 (I : LfI nw LV) (h : LV vs body inp B w y fp z) (hk : Keep [] w w') : LV vs body inp B w' y fp z := I.keep h hk fun k hk => by cases hk
/-- What it does leaves all below B alone. -/
theorem LfI.low (I : LfI nw LV) (h : LV vs body inp B w y fp z) (hk : Keep [] w0 w) (hB : w0.heap.size ≤ B) (hk' : Keep fp w w') : Keep [] w0 w' := hk.trans hk' fun k hm => .inr (Nat.le_trans hB (I.lt h k hm).1)
end
end E
end Go.Proofs.YtmplkogkphmmjafGreat
