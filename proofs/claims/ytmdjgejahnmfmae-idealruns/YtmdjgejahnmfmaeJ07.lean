/- Several texts in one: CmD, BeT, CmK, BeU, BeV, EvM, EvN. -/
import Derived.Test.YtmdjgejahnmfmaeJ05
import Derived.Test.YtmdjgejahnmfmaeJ06
import Derived.Test.YtmdjgejahnmfmaeJ03
import Derived.Test.YtmdjgejahnmfmaeJ02
/- Contracts of the document's instructions: listCode, stmtCode, CodeOf. -/
namespace Go.Proofs.Ytmdjgejahnmfmae
set_option maxRecDepth 20000
set_option maxHeartbeats 4000000
namespace E
open Go.Proofs

/-- stmtCode does for what is smaller. -/
def StC (vs : List VarT) (bd : List ST) (av ab : Option Addr) (capv capb : Nat) (s : Nat) : Prop := ∀ (t : ST), szS t < s → szS t ≤ 100000 → gdS vs.length t → ∀ {F : Nat → Prop} {w : World} {cs : List Value} {i0 : Nat}, ProgV F w (.agg #[.slice av vs.length capv, .slice ab bd.length capb]) vs bd → StmtV F w cs t → In F w → i0 + 2 * szS t ≤ 1000000 →
    Ret Try.prog 130 [.agg #[.slice av vs.length capv, .slice ab bd.length capb], .agg cs.toArray, .int .i64 (i0 : Nat)] w fun r w' => RowI tRI w' w.heap.size r (insS vs t i0) ∧ Keep [] w w'

theorem listCode_ret {vs : List VarT} {bd : List ST} {av ab : Option Addr} {capv capb : Nat} {s : Nat} (hst : StC vs bd av ab capv capb s) (l : List ST) (hls : szSs l < s) (hl3 : szSs l ≤ 100000) (hgd : gdSs vs.length l) {F : Nat → Prop} {w : World} {x : Value} {i0 : Nat} (hp : ProgV F w (.agg #[.slice av vs.length capv, .slice ab bd.length capb]) vs bd) (hE : StmtsV F w x l) (hF : In F w) (hi0 : i0 + 2 * szSs l ≤ 1000000) :
    Ret Try.prog 111 [.agg #[.slice av vs.length capv, .slice ab bd.length capb], x, .int .i64 (i0 : Nat)] w fun r w' => RowI tRI w' w.heap.size r (insSs vs l i0) ∧ Keep [] w w' := by
  obtain ⟨a, cap, rfl⟩ := hE.form
  have hlen := szSs_len l
  refine ret_of 28 Try.func111 rfl rfl (by simp) ?_
  refine au ?_
  refine pl_op rfl rfl (opTo_boxN [.slice av vs.length capv, .slice ab bd.length capb] rfl rfl rfl ?_)
  intro w2 x1 hx1 hs1 hk hX1
  have hp2 := hp.keep hk hF.stays
  have hE2 := hE.keep hk hF.stays
  have hF2 := hF.keep hk
  have hsz2 : w.heap.size ≤ w2.heap.size := hk.size
  refine au ?_
  refine rn_ind (fun m σ w' => ∃ (i : Nat) (rv : Value), i ≤ l.length ∧ m = l.length - i ∧ σ = [(1, .slice a l.length cap), (2, .int .i64 (i0 : Nat)), (3, .pointer (some ⟨x1, 0, none⟩)), (7, rv), (8, .int .i64 (i : Nat))] ∧ RowI tRI w' w2.heap.size rv (insSs vs (l.take i) i0) ∧ Keep [] w2 w') l.length _ ?_ ⟨0, _, by omega, by omega, rfl, RowI.nil _ _ _, Keep.refl _ _⟩ ?_
  · exact ⟨rfl, rfl, rfl, rfl, rfl, trivial⟩
  rintro m σ w6 ih ⟨i, rv, hi, rfl, rfl, hrow, hk6⟩
  have hX16 := hk6.blk hX1 (by simp)
  refine au ?_
  by_cases hlt : i < l.length
  · refine ye ?_
    have hxi : l[i]? = some l[i] := List.getElem?_eq_getElem hlt
    have hszi := szSs_succ hxi
    have hszt := szSs_take l (i + 1)
    have hl1 := insSs_len vs (l.take i) i0
    have htk := insSs_take vs hxi i0
    obtain ⟨Q, hQ⟩ : ∃ Q, Q = insSs vs (l.take i) i0 := ⟨_, rfl⟩
    rw [← hQ] at hrow hl1 htk
    have hl2 := insS_len vs l[i] (i0 + Q.length)
    obtain ⟨ra, rc, rfl⟩ := hrow.form
    obtain ⟨b1, q1, c1, ci, hv1, hF1, hr1, hc1⟩ := hE2.at hxi
    cases hv1
    refine au ?_
    refine rn_draw (fun w' => Keep [] w6 w') [11] hMix ?_
    have hS : Keep [] w6 w6.drew := (Keep.refl _ _).drew
    generalize w6.drew = w7 at *
    refine tk 0 ?_
    refine dr_val 1 (.agg #[.slice av vs.length capv, .slice ab bd.length capb]) rfl (by decide +kernel) rfl rfl (fun w9 hS9 => val_load [.slice av vs.length capv, .slice ab bd.length capb] hT rfl rfl rfl ((hS9.blk hX16 (by simp)).range (by rfl))) hS ?_
    refine tk 2 ?_
    refine tk 3 ?_
    refine dr_any 4 _ rfl (by decide +kernel) rfl rfl (fun w => val_index i hT rfl rfl rfl rfl rfl hlt w) ?_
    refine dr_val 5 (.agg ci.toArray) rfl (by decide +kernel) rfl rfl (fun w9 hS9 => val_load ci hT rfl rfl (by rw [hc1.length]; rfl) (range_keep hr1 (hk6.tr hS9) (hF2 _ hF1) (by simp))) hS ?_
    refine tk 6 ?_
    refine tk 7 ?_
    refine tk 8 ?_
    refine dr_num 9 (((i0 + Q.length : Nat) : Int)) rfl (by decide +kernel) rfl rfl rfl rfl rfl (by simp only [ariP]; omega) ?_
    have hk27 := hk6.tr hS
    refine dr_op 10 rfl (by decide +kernel) rfl rfl (opTo_call (fst := []) (cap := []) rfl rfl rfl rfl (by decide +kernel) ((hst l[i] (by omega) (by omega) (gdSs_at hgd hxi) (hp2.keep hk27 hF2.stays) (hc1.keep hk27 hF2.stays) (hF2.keep hk27) (by omega)).mono ?_))
    rintro r w8 ⟨hrow8, hk8⟩
    refine ⟨fun _ => hS.tr hk8, ?_⟩
    have hrv8 := hrow.keep0 (hS.tr hk8)
    have hk28 := hk27.tr hk8
    refine dr_op 11 rfl (by decide +kernel) rfl rfl (opTo_rowApp Q (insS vs l[i] (i0 + Q.length)) rfl rfl rfl app_ri hrv8 hrow8.ins (by omega) hk28.size ?_)
    intro v9 w9 hrow9 hk9
    refine ⟨fun h => absurd (by simp) h, ?_⟩
    refine tk 12 ?_
    refine dr_done (by decide +kernel) ?_
    refine au ?_
    refine pl_num (((i + 1 : Nat) : Int)) rfl rfl rfl rfl rfl (by simp only [ariP]; omega) ?_
    refine au ?_
    refine rn_sub ?_ (ih (l.length - (i + 1)) [(1, .slice (some ⟨b1, q1, none⟩) l.length cap), (2, .int .i64 (i0 : Nat)), (3, .pointer (some ⟨x1, 0, none⟩)), (7, v9), (8, .int .i64 ((i + 1 : Nat) : Int))] w9 (by omega) ⟨i + 1, v9, by omega, rfl, rfl, ?_, row_keep hrv8 hk28 hk9⟩)
    · exact ⟨rfl, rfl, rfl, rfl, rfl, trivial⟩
    · rw [htk]; exact hrow9
  · refine nay ?_
    rw [List.take_of_length_le (by omega)] at hrow
    refine au ?_
    exact rn_ret Try.func111 (.inl ⟨_, rfl, rfl⟩) ⟨hrow.lower hsz2, hk.tr hk6⟩

theorem stmtCode_ret {vs : List VarT} {bd : List ST} (hs : Sized vs) {av ab : Option Addr} {capv capb : Nat} : ∀ (s : Nat), StC vs bd av ab capv capb s := by
  intro s
  induction s with
  | zero => intro t ht; omega
  | succ s ihs =>
    intro t ht ht3 hgd F w cs i0 hp hX hF hi0
    obtain ⟨op, v, e, f, lb, lo⟩ := t
    obtain ⟨ce, cf, bv, ov, rfl, he, hf, hb, ho⟩ := hX.inv
    obtain ⟨e0, e1, e2, e3, rfl⟩ := list4 he.length
    obtain ⟨f0, f1, f2, f3, rfl⟩ := list4 hf.length
    obtain ⟨ba, bc, rfl⟩ := hb.form
    obtain ⟨oa, oc, rfl⟩ := ho.form
    obtain ⟨hp1, hp2, hp3, hp4, hp5, hp6, hp7⟩ := hgd
    simp only [szS] at ht ht3 hi0
    refine ret_of 121 Try.func130 rfl rfl (by simp) ?_
    refine au ?_
    refine pl_op rfl rfl (opTo_boxN [.slice av vs.length capv, .slice ab bd.length capb] rfl rfl rfl ?_)
    intro w1 x1 hx1 hs1 hk1 hX1'
    refine pl_op rfl rfl (opTo_boxN [.int .i64 op, .int .i64 v, e0, e1, e2, e3, f0, f1, f2, f3, .slice ba lb.length bc, .slice oa lo.length oc] rfl rfl rfl ?_)
    intro w2 x2 hx2 hs2 hk2 hX2
    have hX1 := hk2.blk hX1' (by simp)
    have hk := hk1.tr hk2
    have hq2 := hp.keep hk hF.stays
    have he2 := he.keep hk hF.stays
    have hf2 := hf.keep hk hF.stays
    have hb2 := hb.keep hk hF.stays
    have ho2 := ho.keep hk hF.stays
    have hF2 := hF.keep hk
    have hsz2 : w.heap.size ≤ w2.heap.size := hk.size
    clear hX1' hk1 hk2
    refine auj ?_
    refine rn_seq ?_
    refine rn_plain ?_
    refine auj ?_
    refine rn_seq ?_
    have hel := eI_len vs op e
    have hfl := fI_len vs op f
    obtain ⟨E, hEdef⟩ : ∃ E, eI vs op e = E := ⟨_, rfl⟩
    rw [hEdef] at hel
    refine rn_with (fun σ' w' => ∃ rv, RowI tRI w' w2.heap.size rv E ∧ Keep [] w2 w' ∧ Sub [(2, .int .i64 (i0 : Nat)), (3, .pointer (some ⟨x1, 0, none⟩)), (4, .pointer (some ⟨x2, 0, none⟩)), (7, rv)] σ') ?_ ?_
    rotate_left
    · intro fin
      refine au ?_
      refine pl_val _ rfl rfl (val_load1 hT rfl rfl rfl (hX2.cell rfl)) ?_
      refine pl_op rfl rfl (opTo_call (fst := []) (cap := []) rfl rfl rfl rfl (by decide +kernel) ((needed_ret op 101 w2).mono ?_))
      rintro r w3 ⟨rfl, hww⟩
      rw [hww, (needC_all op).1]
      obtain ⟨qe, hqe⟩ : ∃ q, q = needE op := ⟨_, rfl⟩
      rw [← hqe]
      unfold eI at hEdef
      rw [← hqe] at hEdef
      cases qe with
      | false =>
        refine auj ?_
        have hE0 : E = [] := by rw [← hEdef]; rfl
        exact fin _ _ ⟨_, by rw [hE0]; exact RowI.nil _ _ _, Keep.refl _ _, rfl, rfl, rfl, rfl, trivial⟩
      | true =>
        refine auj ?_
        refine rn_plain ?_
        refine pl_val (.agg #[.slice av vs.length capv, .slice ab bd.length capb]) rfl rfl (val_load [.slice av vs.length capv, .slice ab bd.length capb] hT rfl rfl rfl (hX1.range (by rfl))) ?_
        refine au ?_
        refine pl_val (.agg #[e0, e1, e2, e3]) rfl rfl (val_load [e0, e1, e2, e3] hT rfl rfl rfl (hX2.range rfl)) ?_
        refine pl_op rfl rfl (opTo_call (fst := []) (cap := []) rfl rfl rfl rfl (by decide +kernel) ((exprCode_ret hs (szE e + 1) e (by omega) (by omega) (hp4 hqe.symm) hq2 he2 hF2).mono ?_))
        rintro r w4 ⟨hrow4, hk4⟩
        refine auj ?_
        have hE1 : E = insE vs e := by rw [← hEdef]; rfl
        exact fin _ _ ⟨r, by rw [hE1]; exact hrow4, hk4, rfl, rfl, rfl, rfl, trivial⟩
    rintro σ' w4 ⟨rv, hrow, hk4, hsub⟩
    refine rn_sub hsub ?_
    clear hsub
    refine au ?_
    refine pl_val (.agg #[.slice av vs.length capv, .slice ab bd.length capb]) rfl rfl (val_load [.slice av vs.length capv, .slice ab bd.length capb] hT rfl rfl rfl ((hk4.blk hX1 (by simp)).range (by rfl))) ?_
    refine au ?_
    refine pl_val _ rfl rfl (val_load1 hT rfl rfl rfl ((hk4.blk hX2 (by simp)).cell rfl)) ?_
    refine pl_op rfl rfl (opTo_call (fst := []) (cap := []) rfl rfl rfl rfl (by decide +kernel) ((refCell_ret (hq2.keep hk4 hF2.stays) (hF2.keep hk4) hs v).mono ?_))
    rintro r w6 ⟨rfl, hk6⟩
    replace hrow := hrow.keep0 hk6
    have hk2c := hk4.tr hk6
    have hX16 := hk2c.blk hX1 (by simp)
    have hX26 := hk2c.blk hX2 (by simp)
    clear hk4 hk6
    refine au ?_
    refine pl_val _ rfl rfl (val_load1 hT rfl rfl rfl (hX26.cell rfl)) ?_
    refine au ?_
    by_cases h1 : op = 1
    · subst h1
      refine ye ?_
      refine au ?_
      refine pl_val _ rfl rfl (val_build _ rfl rfl (built_ri1 9 (cellOf vs v)) w6) ?_
      refine pl_op rfl rfl (opTo_sliceN tRI (iC (9, cellOf vs v, 0, 0)) rfl rfl (slice_ri (9, cellOf vs v, 0, 0)) ?_)
      intro wa ga hga hsa hka hba
      have hra := hrow.keep0 hka
      have hk2a := hk2c.tr hka
      refine pl_op rfl rfl (opTo_rowApp E [(9, cellOf vs v, 0, 0)] rfl rfl rfl app_ri hra (ins_one hba) (by simp; omega) hk2a.size ?_)
      intro vb wb hrowb hkb
      have hk2b := row_keep hra hk2a hkb
      refine au ?_
      refine rn_ret Try.func130 (.inl ⟨_, rfl, rfl⟩) ⟨?_, hk.tr hk2b⟩
      simpa [insS, lastI, fI, needF, hEdef] using hrowb.lower hsz2
    refine nay ?_
    refine au ?_
    by_cases h2 : op = 2
    · subst h2
      obtain ⟨hv0, hvl⟩ := hp3 rfl
      obtain ⟨k, rfl⟩ : ∃ k : Nat, v = (k : Nat) := ⟨v.toNat, by omega⟩
      simp only [Int.toNat_natCast] at hvl
      have hxv : vs[k]? = some vs[k] := List.getElem?_eq_getElem hvl
      have hq2' := hq2
      obtain ⟨vv, bv, hpe, hv, _⟩ := hq2'
      cases hpe
      obtain ⟨vb, vq, vc, hvv, hFv, hrv⟩ := hv.at hxv
      cases hvv
      have hsv : sizeV vs ((k : Nat) : Int) = vs[k].2 := by
        unfold sizeV
        rw [Int.toNat_natCast, List.getD_eq_getElem?_getD, hxv]
        rfl
      refine ye ?_
      refine au ?_
      refine pl_val (.agg #[.slice (some ⟨vb, vq, none⟩) vs.length capv, .slice ab bd.length capb]) rfl rfl (val_load [.slice (some ⟨vb, vq, none⟩) vs.length capv, .slice ab bd.length capb] hT rfl rfl rfl (hX16.range (by rfl))) ?_
      refine au ?_
      refine pl_val (.agg #[f0, f1, f2, f3]) rfl rfl (val_load [f0, f1, f2, f3] hT rfl rfl rfl (hX26.range rfl)) ?_
      refine pl_op rfl rfl (opTo_call (fst := []) (cap := []) rfl rfl rfl rfl (by decide +kernel) ((exprCode_ret hs (szE f + 1) f (by omega) (by omega) (hp5 rfl) (hq2.keep hk2c hF2.stays) (hf2.keep hk2c hF2.stays) (hF2.keep hk2c)).mono ?_))
      rintro r w7 ⟨hrow7, hk7⟩
      have hl7 := insE_len vs f
      have hrw7 := hrow.keep0 hk7
      have hk27 := hk2c.tr hk7
      refine pl_op rfl rfl (opTo_rowApp E (insE vs f) rfl rfl rfl app_ri hrw7 hrow7.ins (by omega) hk27.size ?_)
      intro v8 w8 hrow8 hk8
      have hk28 := row_keep hrw7 hk27 hk8
      have hX18 := hk28.blk hX1 (by simp)
      have hX28 := hk28.blk hX2 (by simp)
      clear hrow hk2c hX16 hX26
      have hrow := hrow8
      have hk2c := hk28
      refine au ?_
      refine pl_val _ rfl rfl (val_load1 hT rfl rfl rfl (hX18.cell rfl)) ?_
      refine au ?_
      refine pl_val _ rfl rfl (val_load1 hT rfl rfl rfl (hX28.cell rfl)) ?_
      refine pl_val _ rfl rfl (val_index k hT rfl rfl rfl rfl rfl hvl w8) ?_
      refine au ?_
      refine pl_val _ rfl rfl (val_load1 hT rfl rfl rfl ((range_keep hrv hk28 (hF2 _ hFv) (by simp)) 1 (.int .i64 vs[k].2) rfl)) ?_
      refine pl_val _ rfl rfl (val_build _ rfl rfl (built_ri2 10 (cellOf vs ((k : Nat) : Int)) vs[k].2) w8) ?_
      refine pl_op rfl rfl (opTo_sliceN tRI (iC (10, cellOf vs ((k : Nat) : Int), vs[k].2, 0)) rfl rfl (slice_ri (10, cellOf vs ((k : Nat) : Int), vs[k].2, 0)) ?_)
      intro wa ga hga hsa hka hba
      have hra := hrow.keep0 hka
      have hk2a := hk2c.tr hka
      refine pl_op rfl rfl (opTo_rowApp (E ++ insE vs f) [(10, cellOf vs ((k : Nat) : Int), vs[k].2, 0)] rfl rfl rfl app_ri hra (ins_one hba) (by simp; omega) hk2a.size ?_)
      intro vb wb hrowb hkb
      have hk2b := row_keep hra hk2a hkb
      refine au ?_
      refine rn_ret Try.func130 (.inl ⟨_, rfl, rfl⟩) ⟨?_, hk.tr hk2b⟩
      simpa [insS, lastI, fI, needF, hEdef, hsv] using hrowb.lower hsz2
    refine nay ?_
    refine au ?_
    by_cases h3 : op = 3
    · subst h3
      refine ye ?_
      refine au ?_
      refine pl_val _ rfl rfl (val_build _ rfl rfl (built_ri0 11) w6) ?_
      refine pl_op rfl rfl (opTo_sliceN tRI (iC (11, 0, 0, 0)) rfl rfl (slice_ri (11, 0, 0, 0)) ?_)
      intro wa ga hga hsa hka hba
      have hra := hrow.keep0 hka
      have hk2a := hk2c.tr hka
      refine pl_op rfl rfl (opTo_rowApp E [(11, 0, 0, 0)] rfl rfl rfl app_ri hra (ins_one hba) (by simp; omega) hk2a.size ?_)
      intro vb wb hrowb hkb
      have hk2b := row_keep hra hk2a hkb
      refine au ?_
      refine rn_ret Try.func130 (.inl ⟨_, rfl, rfl⟩) ⟨?_, hk.tr hk2b⟩
      simpa [insS, lastI, fI, needF, hEdef] using hrowb.lower hsz2
    refine nay ?_
    refine au ?_
    by_cases h4 : op = 4
    · subst h4
      refine ye ?_
      refine au ?_
      refine pl_val _ rfl rfl (val_build _ rfl rfl (built_ri1 12 (cellOf vs v)) w6) ?_
      refine pl_op rfl rfl (opTo_sliceN tRI (iC (12, cellOf vs v, 0, 0)) rfl rfl (slice_ri (12, cellOf vs v, 0, 0)) ?_)
      intro wa ga hga hsa hka hba
      have hra := hrow.keep0 hka
      have hk2a := hk2c.tr hka
      refine pl_op rfl rfl (opTo_rowApp E [(12, cellOf vs v, 0, 0)] rfl rfl rfl app_ri hra (ins_one hba) (by simp; omega) hk2a.size ?_)
      intro vb wb hrowb hkb
      have hk2b := row_keep hra hk2a hkb
      refine au ?_
      refine rn_ret Try.func130 (.inl ⟨_, rfl, rfl⟩) ⟨?_, hk.tr hk2b⟩
      simpa [insS, lastI, fI, needF, hEdef] using hrowb.lower hsz2
    refine nay ?_
    refine au ?_
    by_cases h7 : op = 7
    · subst h7
      refine ye ?_
      refine au ?_
      refine pl_val _ rfl rfl (val_build _ rfl rfl (built_ri0 15) w6) ?_
      refine pl_op rfl rfl (opTo_sliceN tRI (iC (15, 0, 0, 0)) rfl rfl (slice_ri (15, 0, 0, 0)) ?_)
      intro wa ga hga hsa hka hba
      have hra := hrow.keep0 hka
      have hk2a := hk2c.tr hka
      refine pl_op rfl rfl (opTo_rowApp E [(15, 0, 0, 0)] rfl rfl rfl app_ri hra (ins_one hba) (by simp; omega) hk2a.size ?_)
      intro vb wb hrowb hkb
      have hk2b := row_keep hra hk2a hkb
      refine au ?_
      refine rn_ret Try.func130 (.inl ⟨_, rfl, rfl⟩) ⟨?_, hk.tr hk2b⟩
      simpa [insS, lastI, fI, needF, hEdef] using hrowb.lower hsz2
    refine nay ?_
    refine au ?_
    obtain ⟨ra, rc, rfl⟩ := hrow.form
    refine pl_val (.agg #[.slice av vs.length capv, .slice ab bd.length capb]) rfl rfl (val_load [.slice av vs.length capv, .slice ab bd.length capb] hT rfl rfl rfl (hX16.range (by rfl))) ?_
    refine au ?_
    refine pl_val _ rfl rfl (val_load1 hT rfl rfl rfl (hX26.cell rfl)) ?_
    refine au ?_
    refine pl_num (((i0 + E.length : Nat) : Int)) rfl rfl rfl rfl rfl (by simp only [ariP]; omega) ?_
    refine pl_num (((i0 + E.length + 1 : Nat) : Int)) rfl rfl rfl rfl rfl (by simp only [ariP]; omega) ?_
    refine pl_op rfl rfl (opTo_call (fst := []) (cap := []) rfl rfl rfl rfl (by decide +kernel) ((listCode_ret ihs lb (by omega) (by omega) hp6 (hq2.keep hk2c hF2.stays) (hb2.keep hk2c hF2.stays) (hF2.keep hk2c) (by omega)).mono ?_))
    rintro r w7 ⟨hrowX, hk7⟩
    have hXl := insSs_len vs lb (i0 + E.length + 1)
    obtain ⟨X, hXd⟩ : ∃ X, insSs vs lb (i0 + E.length + 1) = X := ⟨_, rfl⟩
    rw [hXd] at hrowX hXl
    obtain ⟨xa, xc, rfl⟩ := hrowX.form
    have hrow7 := hrow.keep0 hk7
    have hk27 := hk2c.tr hk7
    refine au ?_
    refine pl_num (((i0 + E.length : Nat) : Int)) rfl rfl rfl rfl rfl (by simp only [ariP]; omega) ?_
    refine pl_num (((i0 + E.length + 1 : Nat) : Int)) rfl rfl rfl rfl rfl (by simp only [ariP]; omega) ?_
    refine au ?_
    refine pl_num (((i0 + E.length + 1 + X.length : Nat) : Int)) rfl rfl rfl rfl rfl (by simp only [ariP]; omega) ?_
    refine pl_num (((i0 + E.length + 1 + X.length + 1 : Nat) : Int)) rfl rfl rfl rfl rfl (by simp only [ariP]; omega) ?_
    refine au ?_
    obtain ⟨Z, hZ⟩ : ∃ Z : Is, Z = (13, ((i0 + E.length + 1 + X.length + 1 : Nat) : Int), 0, 0) := ⟨_, rfl⟩
    refine pl_val (.agg (iC Z).toArray) rfl rfl (by rw [hZ]; exact val_build _ rfl rfl (built_ri1 13 _) w7) ?_
    refine pl_op rfl rfl (opTo_sliceN tRI (iC Z) rfl rfl (slice_ri Z) ?_)
    intro w8 g8 hg8 hs8 hk8 hb8
    have hrow8 := hrow7.keep0 hk8
    have hrowX8 := hrowX.keep0 hk8
    have hk28 := hk27.tr hk8
    have hin : ∀ k ∈ (Value.slice ra E.length rc).ownBlock.toList, k < w6.heap.size := fun k hm => (hrow.own k hm).2
    refine pl_op rfl rfl (opTo_rowApp E [Z] rfl rfl rfl app_ri hrow8 (ins_one hb8) (by simp; omega) hk28.size ?_)
    intro v9 w9 hrow9 hk9
    have hk29 := row_keep hrow8 hk28 hk9
    have hrowX9 := hrowX8.keep hk9 hin
    refine au ?_
    refine pl_op rfl rfl (opTo_rowApp (E ++ [Z]) X rfl rfl rfl app_ri hrow9 hrowX9.ins (by simp; omega) hk29.size ?_)
    intro v10 w10 hrow10 hk10
    have hk210 := row_keep hrow9 hk29 hk10
    refine au ?_
    refine pl_val _ rfl rfl (val_load1 hT rfl rfl rfl ((hk210.blk hX2 (by simp)).cell rfl)) ?_
    clear hrow hk2c hrow7 hrow8 hrow9
    have hrow := hrow10
    have hk2c := hk210
    by_cases h5 : op = 5
    · subst h5
      refine ye ?_
      refine au ?_
      refine pl_val _ rfl rfl (val_build _ rfl rfl (built_ri1 14 ((i0 : Nat) : Int)) w10) ?_
      refine pl_op rfl rfl (opTo_sliceN tRI (iC (14, ((i0 : Nat) : Int), 0, 0)) rfl rfl (slice_ri (14, ((i0 : Nat) : Int), 0, 0)) ?_)
      intro wa ga hga hsa hka hba
      have hra := hrow.keep0 hka
      have hk2a := hk2c.tr hka
      refine pl_op rfl rfl (opTo_rowApp (E ++ [Z] ++ X) [(14, ((i0 : Nat) : Int), 0, 0)] rfl rfl rfl app_ri hra (ins_one hba) (by simp; omega) hk2a.size ?_)
      intro vb wb hrowb hkb
      have hk2b := row_keep hra hk2a hkb
      refine au ?_
      refine rn_ret Try.func130 (.inl ⟨_, rfl, rfl⟩) ⟨?_, hk.tr hk2b⟩
      have e9 : insS vs (.mk 5 v e f lb lo) i0 = E ++ [Z] ++ X ++ [(14, ((i0 : Nat) : Int), 0, 0)] := by
        rw [insS, if_pos rfl, hEdef, hXd, hZ]
        simp [whileI]
      rw [e9]
      exact hrowb.lower hsz2
    have h6 : op = 6 := by omega
    subst h6
    refine nay ?_
    refine au ?_
    refine pl_val (.agg #[.slice av vs.length capv, .slice ab bd.length capb]) rfl rfl (val_load [.slice av vs.length capv, .slice ab bd.length capb] hT rfl rfl rfl ((hk210.blk hX1 (by simp)).range (by rfl))) ?_
    refine au ?_
    refine pl_val _ rfl rfl (val_load1 hT rfl rfl rfl ((hk210.blk hX2 (by simp)).cell rfl)) ?_
    refine au ?_
    refine pl_op rfl rfl (opTo_call (fst := []) (cap := []) rfl rfl rfl rfl (by decide +kernel) ((listCode_ret ihs lo (by omega) (by omega) hp7 (hq2.keep hk210 hF2.stays) (ho2.keep hk210 hF2.stays) (hF2.keep hk210) (by omega)).mono ?_))
    rintro r w11 ⟨hrowY, hk11⟩
    have hYl := insSs_len vs lo (i0 + E.length + 1 + X.length + 1)
    obtain ⟨Y, hY⟩ : ∃ Y, insSs vs lo (i0 + E.length + 1 + X.length + 1) = Y := ⟨_, rfl⟩
    rw [hY] at hrowY hYl
    obtain ⟨ya, yc, rfl⟩ := hrowY.form
    have hrow11 := hrow10.keep0 hk11
    have hk211 := hk210.tr hk11
    refine au ?_
    refine pl_num (((i0 + E.length + 1 + X.length + 1 + Y.length : Nat) : Int)) rfl rfl rfl rfl rfl (by simp only [ariP]; omega) ?_
    obtain ⟨J, hJ⟩ : ∃ J : Is, J = (14, ((i0 + E.length + 1 + X.length + 1 + Y.length : Nat) : Int), 0, 0) := ⟨_, rfl⟩
    refine pl_val (.agg (iC J).toArray) rfl rfl (by rw [hJ]; exact val_build _ rfl rfl (built_ri1 14 _) w11) ?_
    refine pl_op rfl rfl (opTo_sliceN tRI (iC J) rfl rfl (slice_ri J) ?_)
    intro w12 g12 hg12 hs12 hk12 hb12
    have hrow12 := hrow11.keep0 hk12
    have hrowY12 := hrowY.keep0 hk12
    have hk212 := hk211.tr hk12
    have hin2 : ∀ k ∈ v10.ownBlock.toList, k < w10.heap.size := fun k hm => (hrow10.own k hm).2
    refine pl_op rfl rfl (opTo_rowApp (E ++ [Z] ++ X) [J] rfl rfl rfl app_ri hrow12 (ins_one hb12) (by simp; omega) hk212.size ?_)
    intro v13 w13 hrow13 hk13
    have hk213 := row_keep hrow12 hk212 hk13
    have hrowY13 := hrowY12.keep hk13 hin2
    refine au ?_
    refine pl_op rfl rfl (opTo_rowApp (E ++ [Z] ++ X ++ [J]) Y rfl rfl rfl app_ri hrow13 hrowY13.ins (by simp; omega) hk213.size ?_)
    intro v14 w14 hrow14 hk14
    have hk214 := row_keep hrow13 hk213 hk14
    refine au ?_
    refine rn_ret Try.func130 (.inl ⟨_, rfl, rfl⟩) ⟨?_, hk.tr hk214⟩
    have e9 : insS vs (.mk 6 v e f lb lo) i0 = E ++ [Z] ++ X ++ [J] ++ Y := by
      rw [insS, if_neg (by decide), if_pos rfl, hEdef, hXd, hY, hZ, hJ]
      simp [ifI]
    rw [e9]
    exact hrow14.lower hsz2

theorem codeOf_ret {F : Nat → Prop} {w : World} {x : Value} {vs : List VarT} {body : List ST} (h : ProgV F w x vs body) (hF : In F w) (hs : Sized vs) (hgd : gdSs vs.length body) (hsz : szSs body ≤ 100000) :
    Ret Try.prog 83 [x] w fun r w' => RowI tRI w' w.heap.size r (insP vs body) ∧ Keep [] w w' := by
  have hp := h
  obtain ⟨vv, bv, rfl, hv, hb⟩ := h
  obtain ⟨av, capv, rfl⟩ := hv.form
  obtain ⟨ab, capb, rfl⟩ := hb.form
  refine ret_of 12 Try.func83 rfl rfl (by simp) ?_
  refine au ?_
  refine pl_op rfl rfl (opTo_boxN [.slice av vs.length capv, .slice ab body.length capb] rfl rfl rfl ?_)
  intro w2 x1 hx1 hs1 hk hX1
  refine au ?_
  refine pl_val (.agg #[.slice av vs.length capv, .slice ab body.length capb]) rfl rfl (val_load [.slice av vs.length capv, .slice ab body.length capb] hT rfl rfl rfl (hX1.range (by rfl))) ?_
  refine au ?_
  refine pl_val _ rfl rfl (val_load1 hT rfl rfl rfl (hX1.cell rfl)) ?_
  refine pl_op rfl rfl (opTo_call (fst := []) (cap := []) rfl rfl rfl rfl (by decide +kernel) ((listCode_ret (i0 := 0) (stmtCode_ret hs (szSs body + 1)) body (by omega) hsz hgd (hp.keep hk hF.stays) (hb.keep hk hF.stays) (hF.keep hk) (by omega)).mono ?_))
  rintro r w6 ⟨hrow, hk2c⟩
  have hl := insSs_len vs body 0
  refine au ?_
  refine pl_val _ rfl rfl (val_build _ rfl rfl (built_ri0 16) w6) ?_
  refine pl_op rfl rfl (opTo_sliceN tRI (iC haltI) rfl rfl (slice_ri haltI) ?_)
  intro wa ga hga hsa hka hba
  have hra := hrow.keep0 hka
  have hk2a := hk2c.tr hka
  refine pl_op rfl rfl (opTo_rowApp (insSs vs body 0) [haltI] rfl rfl rfl app_ri hra (ins_one hba) (by simp; omega) hk2a.size ?_)
  intro vb wb hrowb hkb
  have hk2b := row_keep hra hk2a hkb
  refine au ?_
  exact rn_ret Try.func83 (.inl ⟨_, rfl, rfl⟩) ⟨hrowb.lower hk.size, hk.tr hk2b⟩
end E
end Go.Proofs.Ytmdjgejahnmfmae

/- The document's Being: Step whole, Commits, Now, NewBeing; SameLongs, SameResult. -/
namespace Go.Proofs.Ytmdjgejahnmfmae
set_option maxRecDepth 20000
set_option maxHeartbeats 4000000
namespace E
open Go.Proofs

/-! ### The same numbers -/
theorem LsV.at {w : World} {v : Value} {l : List Int} (h : LsV w v l) {i : Nat} {x : Int} (hx : l[i]? = some x) : ∃ b q cap, v = .slice (some ⟨b, q, none⟩) l.length cap ∧ b < w.heap.size ∧ w.rangeAt b (q + i) [.int .i64 x] := by
  obtain ⟨a, cap, h1, h2⟩ := h
  have hi := (List.getElem?_eq_some_iff.1 hx).1
  obtain ⟨b, q, h3, h4, h5⟩ := h2 (by omega)
  refine ⟨b, q, cap, by rw [h1, h3], h4, fun j u hu => ?_⟩
  have hj : j = 0 := by have := (List.getElem?_eq_some_iff.1 hu).1; simp at this; omega
  subst hj
  have : u = .int .i64 x := by simpa using hu.symm
  subst this
  exact h5 i _ (lgs_at hx)
theorem sameLs_ret {w : World} {u v : Value} {l : List Int} (hu : LsV w u l) (hv : LsV w v l) (hl : l.length ≤ 1000000) : Ret Try.prog 23 [u, v] w fun r w' => r = .bool true ∧ Keep [] w w' := by
  have hu' := hu
  have hv' := hv
  obtain ⟨ua, uc, rfl, _⟩ := hu'
  obtain ⟨va, vc, rfl, _⟩ := hv'
  refine ret_of 26 Try.func23 rfl rfl (by simp) ?_
  refine au ?_
  refine nay ?_
  refine au ?_
  refine rn_ind (fun m σ w' => ∃ i : Nat, i ≤ l.length ∧ m = l.length - i ∧ σ = [(0, .slice ua l.length uc), (1, .slice va l.length vc), (5, .int .i64 (i : Nat))] ∧ Keep [] w w') l.length _ ?_ ⟨0, by omega, by omega, rfl, Keep.refl _ _⟩ ?_
  · exact ⟨rfl, rfl, rfl, trivial⟩
  rintro m σ w1 ih ⟨i, hi, rfl, rfl, hk1⟩
  refine au ?_
  by_cases hlt : i < l.length
  · refine ye ?_
    have hxi : l[i]? = some l[i] := List.getElem?_eq_getElem hlt
    obtain ⟨x, hx⟩ : ∃ x, x = l[i] := ⟨_, rfl⟩
    rw [← hx] at hxi
    obtain ⟨b1, q1, c1, hv1, hl1, hr1⟩ := hu.at hxi
    cases hv1
    obtain ⟨b2, q2, c2, hv2, hl2, hr2⟩ := hv.at hxi
    cases hv2
    refine au ?_
    refine rn_draw (fun w' => Keep [] w w') [] hMix ?_
    have hS : Keep [] w w1.drew := hk1.drew
    refine tk 0 ?_
    refine tk 1 ?_
    refine dr_any 2 _ rfl (by decide +kernel) rfl rfl (fun w => val_index i hT rfl rfl rfl rfl rfl hlt w) ?_
    refine dr_val 3 (.int .i64 x) rfl (by decide +kernel) rfl rfl (fun w9 hS9 => val_load1 hT rfl rfl rfl (by have := range_keep hr1 hS9 hl1 (by simp) 0 _ rfl; simpa using this)) hS ?_
    refine tk 4 ?_
    refine tk 5 ?_
    refine dr_any 6 _ rfl (by decide +kernel) rfl rfl (fun w => val_index i hT rfl rfl rfl rfl rfl hlt w) ?_
    refine dr_val 7 (.int .i64 x) rfl (by decide +kernel) rfl rfl (fun w9 hS9 => val_load1 hT rfl rfl rfl (by have := range_keep hr2 hS9 hl2 (by simp) 0 _ rfl; simpa using this)) hS ?_
    refine dno 8 ?_
    refine dr_done (by decide +kernel) ?_
    refine au ?_
    refine pl_num (((i + 1 : Nat) : Int)) rfl rfl rfl rfl rfl (by simp only [ariP]; omega) ?_
    refine au ?_
    refine rn_sub ?_ (ih (l.length - (i + 1)) [(0, .slice (some ⟨b1, q1, none⟩) l.length uc), (1, .slice (some ⟨b2, q2, none⟩) l.length vc), (5, .int .i64 ((i + 1 : Nat) : Int))] w1.drew (by omega) ⟨i + 1, by omega, rfl, rfl, hS⟩)
    exact ⟨rfl, rfl, rfl, trivial⟩
  · refine nay ?_
    refine au ?_
    exact rn_ret Try.func23 (.inl ⟨_, rfl, rfl⟩) ⟨rfl, hk1⟩
/-- Two results that are the same. -/
theorem sameRes_ret {w : World} {u v x y : Value} {l n : List Int} (c : Int) (hu : LsV w u l) (hv : LsV w v n) (hx : LsV w x l) (hy : LsV w y n) (hl : l.length ≤ 1000000) (hn : n.length ≤ 1000000) :
    Ret Try.prog 17 [.agg #[.int .i64 c, u, v], .agg #[.int .i64 c, x, y]] w fun r w' => r = .bool true ∧ Keep [] w w' := by
  have h1 := hu
  have h2 := hv
  have h3 := hx
  have h4 := hy
  obtain ⟨_, _, rfl, _⟩ := h1
  obtain ⟨_, _, rfl, _⟩ := h2
  obtain ⟨_, _, rfl, _⟩ := h3
  obtain ⟨_, _, rfl, _⟩ := h4
  refine ret_of 24 Try.func17 rfl rfl (by simp) ?_
  refine au ?_
  refine pl_op rfl rfl (opTo_boxN [.int .i64 c, _, _] rfl rfl rfl ?_)
  intro w1 x1 hx1 hs1 hk1 hb1
  refine pl_op rfl rfl (opTo_boxN [.int .i64 c, _, _] rfl rfl rfl ?_)
  intro w2 x2 hx2 hs2 hk2 hb2
  have hb1' := hk2.blk hb1 (by simp)
  have hk := hk1.tr hk2
  refine au ?_
  refine pl_val _ rfl rfl (val_load1 hT rfl rfl rfl (hb1'.cell rfl)) ?_
  refine au ?_
  refine pl_val _ rfl rfl (val_load1 hT rfl rfl rfl (hb2.cell rfl)) ?_
  refine ye ?_
  refine au ?_
  refine pl_val _ rfl rfl (val_load1 hT rfl rfl rfl (hb1'.cell rfl)) ?_
  refine au ?_
  refine pl_val _ rfl rfl (val_load1 hT rfl rfl rfl (hb2.cell rfl)) ?_
  refine pl_op rfl rfl (opTo_call (fst := []) (cap := []) rfl rfl rfl rfl (by decide +kernel) ((sameLs_ret (hu.keep0 hk) (hx.keep0 hk) hl).mono ?_))
  rintro r w3 ⟨rfl, hk3⟩
  have hb13 := hk3.blk hb1' (by simp)
  have hb23 := hk3.blk hb2 (by simp)
  refine au ?_
  refine pl_val _ rfl rfl (val_load1 hT rfl rfl rfl (hb13.cell rfl)) ?_
  refine au ?_
  refine pl_val _ rfl rfl (val_load1 hT rfl rfl rfl (hb23.cell rfl)) ?_
  refine pl_op rfl rfl (opTo_call (fst := []) (cap := []) rfl rfl rfl rfl (by decide +kernel) ((sameLs_ret ((hv.keep0 hk).keep0 hk3) ((hy.keep0 hk).keep0 hk3) hn).mono ?_))
  rintro r w4 ⟨rfl, hk4⟩
  refine au ?_
  exact rn_ret Try.func17 (.inl ⟨_, rfl, rfl⟩) ⟨rfl, (hk.tr hk3).tr hk4⟩

/-! ### A program's instructions -/
/-- What is known of the instructions of a program. -/
structure Prg (c : Nat) (Q : List Is) : Prop where
  sim : Sim c 0 Q 0
  jmp : Jmps c 0 Q
  ops : ∀ x ∈ Q, 1 ≤ x.1 ∧ x.1 ≤ 15
  cells : c ≤ 1000
  len : Q.length ≤ 100000
theorem Sim.le {c : Int} {n m : Nat} {l : List Is} (h : Sim c n l m) (hn : n ≤ 24) : m ≤ 24 := by
  induction h with
  | nil => exact hn
  | cons hx _ ih => exact ih hx.room
section
variable {w0 w : World} {b : Nat} {inp : List Int} {cv iv : Value} {r : Rws} {m k : Md} {p : Pr} {c : Nat} {Q : List Is}
theorem bStep_ret (hP : Prg c Q) (h : Bw w0 w b (Q ++ [haltI]) inp cv iv r m k p) (hf : Fit c Q m p) (hil : inp.length ≤ 100000) (hpl : p.1.length ≤ 100000) (hrd : m.read ≤ 1000000) (q : Bool) :
    Ret Try.prog 49 [.pointer (some ⟨b, 0, none⟩), .bool q] w fun v w' => v = .bool (decide (m.state = 0)) ∧ BwTo w0 w w' b (Q ++ [haltI]) inp cv iv r (stB (Q ++ [haltI]) inp m p).1 (if q && comB (Q ++ [haltI]) m then (stB (Q ++ [haltI]) inp m p).1 else k) (stB (Q ++ [haltI]) inp m p).2 := by
  unfold stB comB
  by_cases hs : ¬ m.state = 0
  · rw [if_neg hs]
    refine (bStep_off h hs q).mono ?_
    rintro v w' ⟨rfl, rfl⟩
    simp only [hs, decide_false, Bool.false_and, Bool.and_false, Bool.false_eq_true, if_false]
    exact ⟨trivial, r, BwT.refl h⟩
  replace hs : m.state = 0 := by omega
  rw [if_pos hs]
  simp only [hs, decide_true, Bool.true_and]
  have hn := hf.next hs
  have hsim := hf.sim hs
  have hst24 := hsim.le (by decide)
  have hst : m.stack.length ≤ 1000 := by omega
  have hcc := hf.cells
  have hcl : m.cells.length ≤ 1000 := by have := hP.cells; omega
  have hlen := hP.len
  obtain ⟨x, hx, hfx⟩ := at_halt hP.sim hn hsim
  have hg : (Q ++ [haltI]).getD m.next (0, 0, 0, 0) = x := by rw [List.getD_eq_getElem?_getD, hx]; rfl
  rw [hg]
  have hWl : (Q ++ [haltI]).length ≤ 1000000 := by simp; omega
  rcases hfx with ⟨hlt, hxQ, hok, _⟩ | ⟨hlt, rfl, hk0⟩
  · have hops := hP.ops x (List.mem_of_getElem? hxQ)
    have hjm := hP.jmp x (List.mem_of_getElem? hxQ)
    obtain ⟨op, A, B, N⟩ := x
    obtain ⟨f1, f2, f3, f4, f5, f6⟩ := hok
    simp only at f1 f2 f3 f4 f5 f6 hops
    obtain ⟨n1, n2, n3, n4, n5, n6⟩ := popI_num op
    have hA : op = 13 ∨ op = 14 → 0 ≤ A := fun hj => by
      obtain ⟨kk, h1, _⟩ := hjm hj
      simp only at h1
      omega
    clear hjm
    have hne : ∀ {d : Int}, d ≠ 15 → (if q && decide ((d, A, B, N).1 = 15) then (exI inp (d, A, B, N) m p).1 else k) = k := fun {d} hd => by simp [hd]
    have hcase : op = 1 ∨ op = 2 ∨ op = 3 ∨ op = 4 ∨ op = 5 ∨ op = 6 ∨ op = 7 ∨ op = 8 ∨ op = 9 ∨ op = 10 ∨ op = 11 ∨ op = 12 ∨ op = 13 ∨ op = 14 ∨ op = 15 := by omega
    rcases hcase with rfl | rfl | rfl | rfl | rfl | rfl | rfl | rfl | rfl | rfl | rfl | rfl | rfl | rfl | rfl
    · rw [hne (by decide)]
      exact bStep_num h hs hx hWl hst hcl q
    · rw [hne (by decide)]
      obtain ⟨g1, g2⟩ := f5 (.inl rfl)
      exact bStep_var h hs hx hWl hst hcl g1 (by omega) q
    · rw [hne (by decide)]
      obtain ⟨g1, g2, g3⟩ := f6 (.inl rfl)
      have := n2 rfl
      exact bStep_get h hs hx hWl hst hcl (by omega) g1 (by omega) q
    · rw [hne (by decide)]
      have := n3 (by omega)
      exact bStep_add h hs hx hWl hst hcl (by omega) q
    · rw [hne (by decide)]
      have := n3 (by omega)
      exact bStep_sub h hs hx hWl hst hcl (by omega) q
    · rw [hne (by decide)]
      have := n3 (by omega)
      exact bStep_mul h hs hx hWl hst hcl (by omega) q
    · rw [hne (by decide)]
      have := n3 (by omega)
      exact bStep_less h hs hx hWl hst hcl (by omega) q
    · rw [hne (by decide)]
      have := n3 (by omega)
      exact bStep_same h hs hx hWl hst hcl (by omega) q
    · rw [hne (by decide)]
      obtain ⟨g1, g2⟩ := f5 (.inr (.inl rfl))
      have := n4 (by omega)
      exact bStep_set h hs hx hWl hst hcl (by omega) g1 (by omega) q
    · rw [hne (by decide)]
      obtain ⟨g1, g2, g3⟩ := f6 (.inr rfl)
      have := n5 rfl
      exact bStep_put h hs hx hWl hst hcl (by omega) g1 (by omega) q
    · rw [hne (by decide)]
      have := n4 (by omega)
      exact bStep_print h hs hx hWl hst hcl (by omega) hf.out hpl q
    · rw [hne (by decide)]
      obtain ⟨g1, g2⟩ := f5 (.inr (.inr rfl))
      exact bStep_read h hs hx hWl hst hcl g1 (by omega) hil hrd q
    · rw [hne (by decide)]
      have := n4 (by omega)
      exact bStep_else h hs hx hWl hst hcl (by omega) (hA (.inl rfl)) q
    · rw [hne (by decide)]
      exact bStep_jump h hs hx hWl hst hcl (hA (.inr rfl)) q
    · have e : (if q && decide (((15 : Int), A, B, N).1 = 15) then (exI inp (15, A, B, N) m p).1 else k) = (if q then (exI inp (15, A, B, N) m p).1 else k) := by simp
      rw [e]
      exact bStep_commit h hs hx hWl hst hcl q
  · have e : (if q && decide (haltI.1 = 15) then (exI inp haltI m p).1 else k) = k := by simp [haltI]
    rw [e]
    exact bStep_halt h hs hx hWl hst hcl q

end
end E
end Go.Proofs.Ytmdjgejahnmfmae

/- What the laws of package compile take of it; their first look. -/
namespace Go.Proofs.Ytmdjgejahnmfmae
set_option maxRecDepth 20000
set_option maxHeartbeats 4000000
namespace E
open Go.Proofs

/-- What is to be shown of package compile. -/
structure MkC : Prop where
  make : ∀ {F : Nat → Prop} {w : World} {x : Value} {vs : List VarT} {body : List ST}, ProgV F w x vs body → In F w → vs.length ≤ 100000 → szSs body ≤ 100000 →
    Ret Try.prog 10 [x] w fun r w' => (∃ v, r = .tuple #[v, .int .i64 (progFault vs body)] ∧ InsV (fun c => w.heap.size ≤ c ∧ c < w'.heap.size) w' v (makeOf vs body)) ∧ Keep [] w w'

theorem prog_fit {vs : List VarT} {body : List ST} (h : progFault vs body = 0) : Sized vs ∧ Big vs ∧ gdSs vs.length body ∧ 0 ≤ sumV vs ∧ sumV vs ≤ 48 := by
  obtain ⟨h8, hv, k, hc⟩ := progFault_ok h
  obtain ⟨h1, h2⟩ := chkV_sizes hv
  have h3 : Big vs := fun x hx => (h1 x hx).1
  exact ⟨⟨by omega, fun x hx => by have := h1 x hx; omega⟩, h3, chkSs_gd body hc, sumV_big h3, by omega⟩

/-! ### The first look -/
def kz : List Value := [.int .i64 0, .int .i64 0, .int .i64 0, .slice none 0 0]
def ke : List Value := [.int .i64 1, .int .i64 0, .int .i64 5, .slice none 0 0]
def ks : List Value := scells 3 0 ke kz (.slice none 0 0) (.slice none 0 0)
def kE : ET := .mk 1 0 5 []
def kS : List ST := [.mk 3 0 kE zeroT [] []]
def kI : List Is := [(1, 0, 0, 5), (11, 0, 0, 0), (16, 0, 0, 0)]
theorem k_make : makeOf [] kS = kI := by kernel_rfl
theorem k_fault : progFault [] kS = 0 := by kernel_rfl
theorem built_ke : Try.prog.built 70 [(0, .int .i64 1), (2, .int .i64 5)] = some ke.toArray := by kernel_rfl
theorem built_ks : Try.prog.built 72 [(0, .int .i64 3), (2, .agg ke.toArray)] = some ks.toArray := by kernel_rfl
theorem slice_ks : sliceCells Try.prog 23 1 [(0, .agg ks.toArray)] = some (72, ks.toArray) := by kernel_rfl
theorem built_kp (b : Nat) : Try.prog.built 25 [(1, .slice (some ⟨b, 0, none⟩) 1 1)] = some [Value.slice none 0 0, .slice (some ⟨b, 0, none⟩) 1 1].toArray := by kernel_rfl

end E
end Go.Proofs.Ytmdjgejahnmfmae

/- The document's Being: Now, NewBeing; a program's instructions are in order. -/
namespace Go.Proofs.Ytmdjgejahnmfmae
set_option maxRecDepth 20000
set_option maxHeartbeats 4000000
namespace E
open Go.Proofs

/-! ### A program's instructions are in order -/
mutual
theorem ops_E {vs : List VarT} : ∀ (t : ET) {d k k' : Nat}, chkE vs.length t d k = .ok k' → ∀ x ∈ insE vs t, 1 ≤ x.1 ∧ x.1 ≤ 15
  | .mk op v m l, d, k, k', h, x, hx => by
    obtain ⟨hd, h1, k1, h2⟩ := chkE_inv h
    obtain ⟨a1, a2, _⟩ := ownE_inv h1
    simp only [insE, List.mem_append, List.mem_singleton] at hx
    rcases hx with hx | rfl
    · exact ops_Es l h2 x hx
    · exact ⟨a1, by show op ≤ 15; omega⟩
theorem ops_Es {vs : List VarT} : ∀ (l : List ET) {d k k' : Nat}, chkEs vs.length l d k = .ok k' → ∀ x ∈ insEs vs l, 1 ≤ x.1 ∧ x.1 ≤ 15
  | [], _, _, _, _, x, hx => by simp [insEs] at hx
  | t :: r, d, k, k', h, x, hx => by
    obtain ⟨⟨k1, h1⟩, k2, h2⟩ := chkEs_inv h
    simp only [insEs, List.mem_append] at hx
    rcases hx with hx | hx
    · exact ops_E t h1 x hx
    · exact ops_Es r h2 x hx
end
mutual
theorem ops_S {vs : List VarT} : ∀ (t : ST) {d k k' : Nat}, chkS vs.length t d k = .ok k' → ∀ (i0 : Nat), ∀ x ∈ insS vs t i0, 1 ≤ x.1 ∧ x.1 ≤ 15
  | .mk op v e f b o, d, k, k', h, i0, x, hx => by
    obtain ⟨hd, h1, h2, h3, ⟨k1, k2, h4⟩, k3, k4, h5⟩ := chkS_inv h
    have ne : ∀ x ∈ eI vs op e, 1 ≤ x.1 ∧ x.1 ≤ 15 := by
      unfold eI
      split
      · rename_i hn
        obtain ⟨_, _, hc⟩ := h2 hn
        exact ops_E e hc
      · simp
    have nf : ∀ x ∈ fI vs op f, 1 ≤ x.1 ∧ x.1 ≤ 15 := by
      unfold fI
      split
      · rename_i hn
        obtain ⟨_, _, hc⟩ := h3 hn
        exact ops_E f hc
      · simp
    have jb := fun i => ops_Ss b h4 i
    have jo := fun i => ops_Ss o h5 i
    simp only [insS] at hx
    split at hx
    · simp only [whileI, List.mem_append, List.mem_cons, List.not_mem_nil, or_false] at hx
      rcases hx with hx | rfl | hx | rfl
      · exact ne x hx
      · exact ⟨by show (1 : Int) ≤ 13; decide, by show (13 : Int) ≤ 15; decide⟩
      · exact jb _ x hx
      · exact ⟨by show (1 : Int) ≤ 14; decide, by show (14 : Int) ≤ 15; decide⟩
    · split at hx
      · simp only [ifI, List.mem_append, List.mem_cons] at hx
        rcases hx with hx | rfl | hx | rfl | hx
        · exact ne x hx
        · exact ⟨by show (1 : Int) ≤ 13; decide, by show (13 : Int) ≤ 15; decide⟩
        · exact jb _ x hx
        · exact ⟨by show (1 : Int) ≤ 14; decide, by show (14 : Int) ≤ 15; decide⟩
        · exact jo _ x hx
      · simp only [List.mem_append, List.mem_singleton] at hx
        rcases hx with hx | hx | rfl
        · exact ne x hx
        · exact nf x hx
        · unfold lastI
          (repeat' split) <;> simp
theorem ops_Ss {vs : List VarT} : ∀ (l : List ST) {d k k' : Nat}, chkSs vs.length l d k = .ok k' → ∀ (i0 : Nat), ∀ x ∈ insSs vs l i0, 1 ≤ x.1 ∧ x.1 ≤ 15
  | [], _, _, _, _, _, x, hx => by simp [insSs] at hx
  | t :: r, d, k, k', h, i0, x, hx => by
    obtain ⟨⟨k1, h1⟩, k2, h2⟩ := chkSs_inv h
    simp only [insSs, List.mem_append] at hx
    rcases hx with hx | hx
    · exact ops_S t h1 i0 x hx
    · exact ops_Ss r h2 _ x hx
end
theorem prog_prg {vs : List VarT} {body : List ST} (h : progFault vs body = 0) (hsz : szSs body ≤ 1000) : ∃ c : Nat, (c : Int) = sumV vs ∧ c ≤ 48 ∧ Prg c (insSs vs body 0) := by
  obtain ⟨_, hbig, _, h0, h48⟩ := prog_fit h
  obtain ⟨_, _, k, hc⟩ := progFault_ok h
  have e : ((sumV vs).toNat : Int) = sumV vs := by omega
  have hl := insSs_len vs body 0
  exact ⟨(sumV vs).toNat, e, by omega, by rw [e]; exact sim_Ss hbig body hc 0, by rw [e]; exact jmp_Ss hbig body hc 0, ops_Ss body hc 0, by omega, by omega⟩

/-! ### Now -/
def codeB (m : Md) (p : Pr) : Int := if p.2 then 15 else if m.state = 0 then 13 else if m.state > 1 then (m.state : Int) - 2 else 0
def resC (c : Int) (o l : Value) : List Value := [.int .i64 c, o, l]
theorem zero_re : ((Try.prog.info? 46).bind (·.zero)).map (·.cells) = some (resC 0 (.slice none 0 0) (.slice none 0 0)).toArray := by kernel_rfl
theorem size_re : sizeOk Try.prog 46 3 = true := by kernel_rfl
theorem built_re (a b : Option Addr) (n c m d : Nat) : Try.prog.built 46 [(1, .slice a n c), (2, .slice b m d)] = some (resC 0 (.slice a n c) (.slice b m d)).toArray := by kernel_rfl
theorem resC_one (c : Int) (a b : Option Addr) (n k m d : Nat) : ∀ u ∈ resC c (.slice a n k) (.slice b m d), u.oneCell' = true := by
  intro u hu
  simp only [resC, List.mem_cons, List.not_mem_nil, or_false] at hu
  rcases hu with rfl | rfl | rfl <;> rfl
section
variable {w0 w : World} {b : Nat} {W : List Is} {inp : List Int} {cv iv : Value} {r : Rws} {m k : Md} {p : Pr}
theorem bNow_ret (h : Bw w0 w b W inp cv iv r m k p) (hst : m.state ≤ 1000) : Ret Try.prog 50 [.pointer (some ⟨b, 0, none⟩)] w fun v w' => v = .agg (resC (codeB m p) r.o r.c).toArray ∧ Keep [] w w' := by
  obtain ⟨sv, cl, ks, kc, ov⟩ := r
  obtain ⟨oa, ocap, hov⟩ := h.ro.form
  obtain ⟨ca, ccap, hcl⟩ := h.rc.form
  simp only at hov hcl
  subst hov
  subst hcl
  refine ret_of 40 Try.func50 rfl rfl (by simp) ?_
  refine au ?_
  refine pl_op rfl rfl (opTo_allocN _ rfl zero_re ?_)
  intro w1 x2 hx2 hs1 hk1 hb1
  refine au ?_
  refine rn_draw (fun w' => Keep [] w1 w') [] hMix ?_
  have hS : Keep [] w1 w1.drew := (Keep.refl _ _).drew
  generalize w1.drew = w2 at *
  have hbk1 := hk1.blk h.bk (by simp)
  refine tk 0 ?_
  refine tk 1 ?_
  refine tk 2 ?_
  refine dr_val 3 (.slice oa p.1.length ocap) rfl (by decide +kernel) rfl rfl (fun w9 hS9 => val_load1 hT rfl rfl rfl ((hS9.blk hbk1 (by simp)).cell rfl)) hS ?_
  refine tk 4 ?_
  refine tk 5 ?_
  refine tk 6 ?_
  refine tk 7 ?_
  refine dr_val 8 (.slice ca m.cells.length ccap) rfl (by decide +kernel) rfl rfl (fun w9 hS9 => val_load1 hT rfl rfl rfl ((hS9.blk hbk1 (by simp)).cell rfl)) hS ?_
  refine dr_any 9 (.agg (resC 0 (.slice oa p.1.length ocap) (.slice ca m.cells.length ccap)).toArray) rfl (by decide +kernel) rfl rfl (fun w => val_build _ rfl rfl (built_re _ _ _ _ _ _) w) ?_
  refine dr_op 10 rfl (by decide +kernel) rfl rfl (opTo_allocN _ rfl zero_re ?_)
  intro w3 x3 hx3 hs3 hk3 hb3
  refine ⟨fun _ => hS.tr hk3, ?_⟩
  refine dr_op 11 rfl (by decide +kernel) rfl rfl (opTo_storeN (resC 0 (.slice oa p.1.length ocap) (.slice ca m.cells.length ccap)) rfl rfl rfl rfl size_re hb3 (by simp [resC]) (resC_one _ _ _ _ _ _ _) ?_)
  intro w4 hs4 hk4 hb4
  rw [splice_whole (by rfl)] at hb4
  have hk14 : Keep [] w1 w4 := hS.tr (hk3.trB hk4 (by omega))
  refine ⟨fun _ => hk14, ?_⟩
  refine dr_done (by decide +kernel) ?_
  have hbk4 := hk14.blk hbk1 (by simp)
  have hne : x2 ≠ x3 := by have := hS.size; omega
  have hx3w : w.heap.size ≤ x3 := by have := hS.size; have := hk1.size; omega
  have hk04 := hk1.tr hk14
  have hb24 := hk14.blk hb1 (by simp)
  refine rn_seq ?_
  refine rn_with (fun σ' w' => Blk w' x3 (resC (if m.state = 0 then 13 else if m.state > 1 then (m.state : Int) - 2 else 0) (.slice oa p.1.length ocap) (.slice ca m.cells.length ccap)) 46 ∧ Keep [x3] w4 w' ∧ Sub [(0, .pointer (some ⟨b, 0, none⟩)), (2, .pointer (some ⟨x2, 0, none⟩)), (3, .pointer (some ⟨x3, 0, none⟩))] σ') ?_ ?_
  rotate_left
  · intro fin
    refine au ?_
    refine pl_val _ rfl rfl (val_load1 hT rfl rfl rfl (hbk4.cell rfl)) ?_
    by_cases h0 : m.state = 0
    · rw [if_pos h0] at fin
      refine ye ?_
      refine au ?_
      refine pl_op rfl rfl (opTo_storeN [.int .i64 13] rfl rfl rfl rfl size_in hb4 (by simp [resC]) (one_in _) ?_)
      intro w5 hs5 hk5 hb5
      refine auj ?_
      exact fin _ _ ⟨hb5, hk5, rfl, rfl, rfl, trivial⟩
    · rw [if_neg h0] at fin
      refine nay ?_
      refine au ?_
      refine pl_val _ rfl rfl (val_load1 hT rfl rfl rfl (hbk4.cell rfl)) ?_
      by_cases h1 : m.state > 1
      · rw [if_pos h1] at fin
        refine ye ?_
        refine au ?_
        refine pl_val _ rfl rfl (val_load1 hT rfl rfl rfl (hbk4.cell rfl)) ?_
        refine pl_num (-2 + (m.state : Int)) rfl rfl rfl rfl rfl (by simp only [ariP]; omega) ?_
        refine au ?_
        refine pl_op rfl rfl (opTo_storeN [.int .i64 (-2 + (m.state : Int))] rfl rfl rfl rfl size_in hb4 (by simp [resC]) (one_in _) ?_)
        intro w5 hs5 hk5 hb5
        refine auj ?_
        have e2 : (m.state : Int) - 2 = -2 + (m.state : Int) := by omega
        rw [e2] at fin
        exact fin _ _ ⟨hb5, hk5, rfl, rfl, rfl, trivial⟩
      · rw [if_neg h1] at fin
        refine nay ?_
        refine auj ?_
        exact fin _ _ ⟨hb4, Keep.refl _ _, rfl, rfl, rfl, trivial⟩
  clear hb4
  rintro σ' w5 ⟨hb5, hk5, hsub⟩
  refine rn_sub hsub ?_
  have hbk5 := hk5.blk hbk4 (by simp; have := h.bk.lt; omega)
  have hb25 := hk5.blk hb24 (by simpa using hne)
  refine rn_seq ?_
  refine rn_with (fun σ' w' => Blk w' x3 (resC (codeB m p) (.slice oa p.1.length ocap) (.slice ca m.cells.length ccap)) 46 ∧ Keep [x3] w4 w' ∧ Sub [(2, .pointer (some ⟨x2, 0, none⟩)), (3, .pointer (some ⟨x3, 0, none⟩))] σ') ?_ ?_
  rotate_left
  · intro fin
    refine au ?_
    refine pl_val _ rfl rfl (val_load1 hT rfl rfl rfl (hbk5.cell rfl)) ?_
    cases hp : p.2 with
    | false =>
      have hcd : codeB m p = (if m.state = 0 then 13 else if m.state > 1 then (m.state : Int) - 2 else 0) := by unfold codeB; rw [hp, if_neg (by decide)]
      refine auj ?_
      exact fin _ _ ⟨by rw [hcd]; exact hb5, hk5, rfl, rfl, trivial⟩
    | true =>
      have hcd : codeB m p = 15 := by unfold codeB; rw [hp, if_pos rfl]
      refine au ?_
      refine pl_op rfl rfl (opTo_storeN [.int .i64 15] rfl rfl rfl rfl size_in hb5 (by simp [resC]) (one_in _) ?_)
      intro w6 hs6 hk6 hb6
      refine auj ?_
      exact fin _ _ ⟨by rw [hcd]; exact hb6, hk5.tr hk6, rfl, rfl, trivial⟩
  rintro σ' w6 ⟨hb6, hk6, hsub⟩
  refine rn_sub hsub ?_
  have hb26 := hk6.blk hb24 (by simpa using hne)
  refine au ?_
  refine pl_val (.agg (resC (codeB m p) (.slice oa p.1.length ocap) (.slice ca m.cells.length ccap)).toArray) rfl rfl (val_load (resC (codeB m p) (.slice oa p.1.length ocap) (.slice ca m.cells.length ccap)) hT rfl rfl rfl (hb6.range (by rfl))) ?_
  refine pl_op rfl rfl (opTo_storeN (resC (codeB m p) (.slice oa p.1.length ocap) (.slice ca m.cells.length ccap)) rfl rfl rfl rfl size_re hb26 (by simp [resC]) (resC_one _ _ _ _ _ _ _) ?_)
  intro w7 hs7 hk7 hb7
  rw [splice_whole (by rfl)] at hb7
  refine au ?_
  exact rn_ret Try.func50 (.inr (.inr (.inl ⟨_, _, _, rfl, rfl, blk_loadVar hT hb7 rfl⟩))) ⟨rfl, (hk04.trB hk6 hx3w).trB hk7 (by omega)⟩
end
end E
end Go.Proofs.Ytmdjgejahnmfmae

/- The document's Being: NewBeing. -/
namespace Go.Proofs.Ytmdjgejahnmfmae
set_option maxRecDepth 20000
set_option maxHeartbeats 4000000
namespace E
open Go.Proofs

theorem built_md (a : Option Addr) (n c : Nat) : Try.prog.built tMd [(5, .slice a n c)] = some (mC ⟨0, [], 0, 0, 0, []⟩ (.slice none 0 0) (.slice a n c)).toArray := by kernel_rfl
theorem lgs_rep (c : Nat) : lgs (List.replicate c 0) = List.replicate c (Value.int .i64 0) := by simp [lgs]
theorem built_bg (ca ia sa la ka ta : Option Addr) (c1 c2 i1 i2 s1 s2 l1 l2 k1 k2 t1 t2 : Nat) (m k : Md) :
    Try.prog.built tBe [(0, .slice ca c1 c2), (1, .slice ia i1 i2), (2, .agg (mC m (.slice sa s1 s2) (.slice la l1 l2)).toArray), (3, .agg (mC k (.slice ka k1 k2) (.slice ta t1 t2)).toArray)] =
      some (beC (.slice ca c1 c2) (.slice ia i1 i2) m k ([], false) ⟨.slice sa s1 s2, .slice la l1 l2, .slice ka k1 k2, .slice ta t1 t2, .slice none 0 0⟩).toArray := by
  obtain ⟨a1, a2, a3, a4, a5, a6⟩ := m
  obtain ⟨b1, b2, b3, b4, b5, b6⟩ := k
  kernel_rfl

theorem newBeing_ret {F : Nat → Prop} {w : World} {x iv : Value} {vs : List VarT} {body : List ST} {inp : List Int} {c : Nat} (h : ProgV F w x vs body) (hF : In F w) (hi : LsV w iv inp) (hpf : progFault vs body = 0) (hsz : szSs body ≤ 1000) (hc : (c : Int) = sumV vs) (hc48 : c ≤ 48) :
    Ret Try.prog 48 [x, iv] w fun v w' => ∃ b cv r, v = .pointer (some ⟨b, 0, none⟩) ∧ Bw w w' b (insP vs body) inp cv iv r (mind0 c) (mind0 c) ([], false) := by
  obtain ⟨hfit, hbig, hgd, _, _⟩ := prog_fit hpf
  have hh := h
  obtain ⟨vv, bv, rfl, hv, hb⟩ := h
  obtain ⟨av, capv, rfl⟩ := hv.form
  obtain ⟨ab, capb, rfl⟩ := hb.form
  have hi' := hi
  obtain ⟨ia, icap, rfl, _⟩ := hi'
  refine ret_of 21 Try.func48 rfl rfl (by simp) ?_
  refine au ?_
  refine pl_op rfl rfl (opTo_boxN [.slice av vs.length capv, .slice ab body.length capb] rfl rfl rfl ?_)
  intro w1 x2 hx2 hs1 hk1 hb1
  refine au ?_
  refine pl_val (.agg #[.slice av vs.length capv, .slice ab body.length capb]) rfl rfl (val_load [.slice av vs.length capv, .slice ab body.length capb] hT rfl rfl rfl (hb1.range (by rfl))) ?_
  refine au ?_
  refine pl_val _ rfl rfl (val_load1 hT rfl rfl rfl (hb1.cell rfl)) ?_
  refine au ?_
  refine pl_op rfl rfl (opTo_call (fst := []) (cap := []) rfl rfl rfl rfl (by decide +kernel) ((refCell_ret (hh.keep hk1 hF.stays) (hF.keep hk1) hfit (vs.length : Nat)).mono ?_))
  rintro r w2 ⟨rfl, hk2⟩
  have hce : cellOf vs (vs.length : Nat) = ((c : Nat) : Int) := by
    unfold cellOf
    rw [Int.toNat_natCast, List.take_length, hc]
  rw [hce]
  refine pl_op rfl rfl (opTo_makeI tLg c rfl rfl rfl (by decide +kernel) (by omega) ?_)
  intro w3 g hg hs3 hk3 hb3
  refine pl_val _ rfl rfl (val_build _ rfl rfl (built_md _ _ _) w3) ?_
  refine pl_op rfl rfl (opTo_allocN _ rfl zero_md ?_)
  intro w4 x5 hx5 hs4 hk4 hb4
  refine pl_op rfl rfl (opTo_storeN (mC ⟨0, [], 0, 0, 0, []⟩ (.slice none 0 0) (.slice (some ⟨g, 0, none⟩) c c)) rfl rfl rfl rfl size_md hb4 (by simp [mC]) (mC_one rfl rfl) ?_)
  intro w5 hs5 hk5 hb5
  rw [splice_whole (by rfl)] at hb5
  have hk35 : Keep [] w3 w5 := hk4.trB hk5 (by omega)
  have hk05 : Keep [] w w5 := ((hk1.tr hk2).tr hk3).tr hk35
  have hgb : w.heap.size ≤ g := by have := hk1.size; have := hk2.size; omega
  have hg5 := hk35.blk hb3 (by simp)
  have hrow : RowL w5 w.heap.size (.slice (some ⟨g, 0, none⟩) c c) (List.replicate c 0) := ⟨by simp [lgs], .inr ⟨g, c, _, by simp, hgb, hg5, by simp, by simp, by rw [lgs_rep]; simp⟩⟩
  have hb15 := ((hk2.tr hk3).tr hk35).blk hb1 (by simp)
  refine au ?_
  refine rn_draw (fun w' => Keep [] w5 w') [] hMix ?_
  have hS : Keep [] w5 w5.drew := (Keep.refl _ _).drew
  generalize w5.drew = w6 at *
  refine dr_val 0 (.agg #[.slice av vs.length capv, .slice ab body.length capb]) rfl (by decide +kernel) rfl rfl (fun w9 hS9 => val_load [.slice av vs.length capv, .slice ab body.length capb] hT rfl rfl rfl ((hS9.blk hb15 (by simp)).range (by rfl))) hS ?_
  refine tk 2 ?_
  refine dr_val 3 (.agg (mC ⟨0, [], 0, 0, 0, []⟩ (.slice none 0 0) (.slice (some ⟨g, 0, none⟩) c c)).toArray) rfl (by decide +kernel) rfl rfl (fun w9 hS9 => val_load (mC ⟨0, [], 0, 0, 0, []⟩ (.slice none 0 0) (.slice (some ⟨g, 0, none⟩) c c)) hT rfl rfl rfl ((hS9.blk hb5 (by simp)).range (by rfl))) hS ?_
  refine dr_val 4 (.agg (mC (mind0 c) (.slice none 0 0) (.slice (some ⟨g, 0, none⟩) c c)).toArray) rfl (by decide +kernel) rfl rfl (fun w9 hS9 => val_load (mC (mind0 c) (.slice none 0 0) (.slice (some ⟨g, 0, none⟩) c c)) hT rfl rfl rfl ((hS9.blk hb5 (by simp)).range (by rfl))) hS ?_
  have hk06 := hk05.tr hS
  refine dr_op 1 rfl (by decide +kernel) rfl rfl (opTo_call (fst := []) (cap := []) rfl rfl rfl rfl (by decide +kernel) ((codeOf_ret (hh.keep hk06 hF.stays) (hF.keep hk06) hfit hgd (by omega)).mono ?_))
  rintro cv w7 ⟨hcd, hk7⟩
  refine ⟨fun _ => hS.tr hk7, ?_⟩
  have hk57 := hS.tr hk7
  have hrow7 := hrow.keep hk57 fun _ _ => by simp
  refine dr_op 5 rfl (by decide +kernel) rfl rfl (opTo_call (fst := []) (cap := []) rfl rfl rfl rfl (by decide +kernel) ((mindCopy_ret (m := mind0 c) (s := .slice none 0 0) (c := .slice (some ⟨g, 0, none⟩) c c) ⟨none, 0, rfl, fun h => absurd h (by simp [mind0])⟩ hrow7.lies (by simp [mind0]; omega)).mono ?_))
  rintro v w8 ⟨s', c', rfl, hrs, hrc, hap, hk8⟩
  refine ⟨fun _ => hk57.tr hk8, ?_⟩
  have hk58 := hk57.tr hk8
  obtain ⟨ka, kcap, rfl⟩ := hrs.form
  obtain ⟨ta, tcap, rfl⟩ := hrc.form
  obtain ⟨ca, ccap, rfl⟩ := hcd.form
  obtain ⟨R, hR⟩ : ∃ R : Rws, R = ⟨.slice none 0 0, .slice (some ⟨g, 0, none⟩) c c, .slice ka (mind0 c).stack.length kcap, .slice ta (mind0 c).cells.length tcap, .slice none 0 0⟩ := ⟨_, rfl⟩
  refine dr_any 6 (.agg (beC (.slice ca (insP vs body).length ccap) (.slice ia inp.length icap) (mind0 c) (mind0 c) ([], false) R).toArray) rfl (by decide +kernel) rfl rfl (fun w => by rw [hR]; exact val_build _ rfl rfl (built_bg _ _ _ _ _ _ _ _ _ _ _ _ _ _ _ _ _ _ (mind0 c) (mind0 c)) w) ?_
  refine dr_op 7 rfl (by decide +kernel) rfl rfl (opTo_boxN (beC (.slice ca (insP vs body).length ccap) (.slice ia inp.length icap) (mind0 c) (mind0 c) ([], false) R) rfl rfl rfl ?_)
  intro w9 b hb9 hs9 hk9 hB9
  refine ⟨fun _ => hk58.tr hk9, ?_⟩
  refine tk 8 ?_
  refine dr_done (by decide +kernel) ?_
  refine au ?_
  refine rn_ret Try.func48 (.inl ⟨_, rfl, rfl⟩) ⟨b, .slice ca (insP vs body).length ccap, R, rfl, ?_⟩
  have hk89 : Keep [] w w9 := (hk05.tr hk58).tr hk9
  have low : ∀ {B : Nat} {v : Value} {l : List Int}, RowL w9 B v l → w.heap.size ≤ B → RowL w9 w.heap.size v l := fun {B v l} hv hB => by
    refine ⟨hv.1, ?_⟩
    rcases hv.2 with h0 | ⟨g, cap, cur, e1, e2, e3⟩
    · exact .inl h0
    · exact .inr ⟨g, cap, cur, e1, Nat.le_trans hB e2, e3⟩
  have hr9 := hrow.keep (hk58.tr hk9) fun _ _ => by simp
  have hs9' := hrs.keep hk9 fun _ _ => by simp
  have hc9' := hrc.keep hk9 fun _ _ => by simp
  have hw7 : w.heap.size ≤ w7.heap.size := (hk05.tr hk57).size
  have hg7 : g < w7.heap.size := Nat.lt_of_lt_of_le hg5.lt hk57.size
  have nilL : ∀ k, k ∉ obs (.slice none 0 0) := fun k hk => by simp [obs, Value.ownBlock] at hk
  have nil2 : ∀ {v : Value}, Apt (.slice none 0 0) v := fun {v} k hk => absurd hk (nilL k)
  have nil3 : ∀ {v : Value}, Apt v (.slice none 0 0) := fun {v} k _ => nilL k
  have gn : ∀ {v : Value} {l : List Int}, RowL w8 w7.heap.size v l → Apt (.slice (some ⟨g, 0, none⟩) c c) v := fun {v l} hv k hk hm => by
    have : k = g := by simpa [obs, Value.ownBlock] using hk
    have := (hv.lt k hm).1
    omega
  rw [hR] at hB9 ⊢
  exact ⟨hk89, by have := hk05.size; have := hk58.size; omega, hB9, ((hcd.keep0 hk8).keep0 hk9).lower (by have := hk06.size; omega), hi, RowL.nil _ _, by simpa [mind0] using hr9, low hs9' hw7, low hc9' hw7, RowL.nil _ _, ⟨nil2, nil2, nil2, nil2, gn hrs, gn hrc, nil3, hap, nil3, nil3⟩⟩
end E
end Go.Proofs.Ytmdjgejahnmfmae

/- Plain mathematics of what a program says: its expressions and statements evaluated, instruction by instruction counted; that the document's machine does just that. -/
namespace Go.Proofs.Ytmdjgejahnmfmae
set_option maxRecDepth 20000
set_option maxHeartbeats 4000000
namespace E

/-- How far it is: instructions done, numbers read, what was printed, the cells. -/
structure Es where
  n : Nat
  read : Nat
  out : List Int
  cells : List Int
abbrev Ex (α : Type) := Except (Nat × Es) α
def bndX {α β : Type} (x : Ex α) (f : α → Ex β) : Ex β := match x with
  | .error e => .error e
  | .ok a => f a
/-- One instruction: ErrFuel, if there is none left. -/
def tick (fuel : Nat) (s : Es) : Ex Es := if s.n < fuel then .ok { s with n := s.n + 1 } else .error (13, s)
section
variable (vs : List VarT) (inp : List Int) (fuel : Nat)
/-- What an expression says of the numbers of what is in it. -/
def sayE (op v n : Int) (xs : List Int) (s : Es) : Ex (Int × Es) :=
  if op = 1 then .ok (n, s)
  else if op = 2 then .ok (cellAt s.cells (cellOf vs v), s)
  else if op = 3 then (if 0 ≤ xs.getD 0 0 ∧ xs.getD 0 0 < sizeV vs v then .ok (cellAt s.cells (cellOf vs v + xs.getD 0 0), s) else .error (11, s))
  else .ok (ariI op (xs.getD 0 0) (xs.getD 1 0), s)
mutual
def evE : ET → Es → Ex (Int × Es)
  | .mk op v n l, s => bndX (evEs l s) fun a => bndX (tick fuel a.2) fun s2 => sayE vs op v n a.1 s2
def evEs : List ET → Es → Ex (List Int × Es)
  | [], s => .ok ([], s)
  | t :: r, s => bndX (evE t s) fun a => bndX (evEs r a.2) fun c => .ok (a.1 :: c.1, c.2)
end
/-- What a statement does in which no others stand, with the numbers that its E and F say. -/
def sayS (op v x y : Int) (s : Es) : Ex Es :=
  if op = 1 then .ok { s with cells := s.cells.set (cellOf vs v).toNat x }
  else if op = 2 then (if 0 ≤ x ∧ x < sizeV vs v then .ok { s with cells := s.cells.set (cellOf vs v + x).toNat y } else .error (11, s))
  else if op = 3 then .ok { s with out := s.out ++ [x] }
  else if op = 4 then (if s.read < inp.length then .ok { s with cells := s.cells.set (cellOf vs v).toNat (inp.getD s.read 0), read := s.read + 1 } else .error (12, s))
  else .ok s
/-- As long as E is not 0, the body; g: so often at most. -/
def loopX (ce : Es → Ex (Int × Es)) (cb : Es → Ex Es) : Nat → Es → Ex Es
  | 0, s => .error (13, s)
  | g + 1, s => bndX (ce s) fun a => bndX (tick fuel a.2) fun s2 => if a.1 = 0 then .ok s2 else bndX (cb s2) fun s3 => bndX (tick fuel s3) fun s4 => loopX ce cb g s4
mutual
def evS : ST → Es → Ex Es
  | .mk op v e f b o, s =>
    if op = 5 then loopX fuel (evE vs fuel e) (evSs b) (fuel + 1) s
    else if op = 6 then bndX (evE vs fuel e s) fun a => bndX (tick fuel a.2) fun s2 => if a.1 = 0 then evSs o s2 else bndX (evSs b s2) fun s3 => tick fuel s3
    else bndX (if needE op then evE vs fuel e s else .ok (0, s)) fun a => bndX (if needF op then evE vs fuel f a.2 else .ok (0, a.2)) fun c => bndX (tick fuel c.2) fun s2 => sayS vs inp op v a.1 c.1 s2
def evSs : List ST → Es → Ex Es
  | [], s => .ok s
  | t :: r, s => bndX (evS t s) fun s1 => evSs r s1
end
/-- A program: its statements, then the end. -/
def evP (body : List ST) (s : Es) : Ex Es := bndX (evSs vs inp fuel body s) fun s1 => tick fuel s1
end
def es0 (c : Nat) : Es := ⟨0, 0, [], List.replicate c 0⟩

/-! ### The machine goes on -/
def runB (W : List Is) (inp : List Int) : Nat → Md × Pr → Md × Pr
  | 0, a => a
  | n + 1, a => runB W inp n (stB W inp a.1 a.2)
theorem runB_add (W : List Is) (inp : List Int) : ∀ (a b : Nat) (x : Md × Pr), runB W inp (a + b) x = runB W inp b (runB W inp a x)
  | 0, b, x => by simp [runB]
  | a + 1, b, x => by
    rw [Nat.succ_add]
    exact runB_add W inp a b _
/-- So many instructions, each of them done. -/
def goB (W : List Is) (inp : List Int) (n : Nat) (a b : Md × Pr) : Prop := runB W inp n a = b ∧ ∀ k < n, (runB W inp k a).1.state = 0
theorem goB_add {W : List Is} {inp : List Int} {a b : Nat} {x y z : Md × Pr} (h : goB W inp a x y) (h2 : goB W inp b y z) : goB W inp (a + b) x z := by
  refine ⟨by rw [runB_add, h.1, h2.1], fun k hk => ?_⟩
  by_cases hka : k < a
  · exact h.2 k hka
  · have e : k = a + (k - a) := by omega
    rw [e, runB_add, h.1]
    exact h2.2 _ (by omega)
/-- The machine's mind where an evaluation is so far, at a place, with so many on the stack. -/
def mdOf (i : Nat) (s : List Int) (e : Es) : Md := ⟨i, s, e.read, e.out.length, 0, e.cells⟩
/-- By as many instructions as X tells the machine comes to what X tells. -/
def Sims (W : List Is) (inp : List Int) (fuel : Nat) {α : Type} (m0 : Md) (s : Es) (X : Ex α) (st : α → Es) (tgt : α → Md → Prop) : Prop :=
  match X with
  | .ok a => s.n ≤ (st a).n ∧ (st a).n ≤ fuel ∧ ∃ m, goB W inp ((st a).n - s.n) (m0, (s.out, false)) (m, ((st a).out, false)) ∧ tgt a m
  | .error e => s.n ≤ e.2.n ∧ e.2.n ≤ fuel ∧ ∃ m, goB W inp (e.2.n - s.n) (m0, (s.out, false)) (m, (e.2.out, false)) ∧ m.cells = e.2.cells ∧ ((e.1 = 13 ∧ e.2.n = fuel ∧ m.state = 0) ∨ (e.1 ≠ 13 ∧ e.1 ≠ 0 ∧ m.state = e.1 + 2))
section
variable {W : List Is} {inp : List Int} {fuel : Nat} {α β : Type} {m0 : Md} {s : Es} {X : Ex α} {st : α → Es} {tgt : α → Md → Prop}
theorem Sims.bnd {f : α → Ex β} {st2 : β → Es} {tgt2 : β → Md → Prop} (h : Sims W inp fuel m0 s X st tgt) (h2 : ∀ a m, X = .ok a → tgt a m → s.n ≤ (st a).n → (st a).n ≤ fuel → Sims W inp fuel m (st a) (f a) st2 tgt2) : Sims W inp fuel m0 s (bndX X f) st2 tgt2 := by
  cases hX : X with
  | error e => rw [hX] at h; exact h
  | ok a =>
    rw [hX] at h
    obtain ⟨h1, h3, m, hr, ht⟩ := h
    have h4 := h2 a m hX ht h1 h3
    show Sims W inp fuel m0 s (f a) st2 tgt2
    cases hY : f a with
    | error e =>
      rw [hY] at h4
      obtain ⟨g1, g2, m', g3, g4⟩ := h4
      have en : e.2.n - s.n = ((st a).n - s.n) + (e.2.n - (st a).n) := by omega
      refine ⟨by omega, g2, m', ?_, g4⟩
      rw [en]
      exact goB_add hr g3
    | ok c =>
      rw [hY] at h4
      obtain ⟨g1, g2, m', g3, g4⟩ := h4
      have en : (st2 c).n - s.n = ((st a).n - s.n) + ((st2 c).n - (st a).n) := by omega
      refine ⟨by omega, g2, m', ?_, g4⟩
      rw [en]
      exact goB_add hr g3
theorem Sims.ok {a : α} (hst : st a = s) (hn : s.n ≤ fuel) (ht : tgt a m0) : Sims W inp fuel m0 s (.ok a) st tgt := by
  refine ⟨by rw [hst]; exact Nat.le_refl _, by rw [hst]; exact hn, m0, ?_, ht⟩
  rw [hst, Nat.sub_self]
  exact ⟨rfl, fun k hk => absurd hk (by omega)⟩
theorem Sims.mono {tgt2 : α → Md → Prop} (h : Sims W inp fuel m0 s X st tgt) (ht : ∀ a m, tgt a m → tgt2 a m) : Sims W inp fuel m0 s X st tgt2 := by
  cases X with
  | error e => exact h
  | ok a =>
    obtain ⟨h1, h2, m, h3, h4⟩ := h
    exact ⟨h1, h2, m, h3, ht a m h4⟩
/-- One instruction, and what it comes to. -/
theorem Sims.tick {f : Es → Ex β} {st2 : β → Es} {tgt2 : β → Md → Prop} {x : Is} (hx : W[m0.next]? = some x) (hs : m0.state = 0) (hc : m0.cells = s.cells) (hn : s.n ≤ fuel)
    (h : s.n + 1 ≤ fuel → match f { s with n := s.n + 1 } with
      | .ok a => (st2 a).n = s.n + 1 ∧ (exI inp x m0 (s.out, false)).2 = ((st2 a).out, false) ∧ tgt2 a (exI inp x m0 (s.out, false)).1
      | .error e => e.2.n = s.n + 1 ∧ (exI inp x m0 (s.out, false)).2 = (e.2.out, false) ∧ (exI inp x m0 (s.out, false)).1.cells = e.2.cells ∧ e.1 ≠ 13 ∧ e.1 ≠ 0 ∧ (exI inp x m0 (s.out, false)).1.state = e.1 + 2) : Sims W inp fuel m0 s (bndX (tick fuel s) f) st2 tgt2 := by
  unfold E.tick
  by_cases hlt : s.n < fuel
  · rw [if_pos hlt]
    have h1 := h (by omega)
    have hone : goB W inp 1 (m0, (s.out, false)) (exI inp x m0 (s.out, false)) := by
      refine ⟨?_, fun k hk => by have : k = 0 := by omega
                                 subst this; exact hs⟩
      have hg : W.getD m0.next (0, 0, 0, 0) = x := by rw [List.getD_eq_getElem?_getD, hx]; rfl
      show stB W inp m0 (s.out, false) = _
      unfold stB
      rw [if_pos hs, hg]
    show Sims W inp fuel m0 s (f { s with n := s.n + 1 }) st2 tgt2
    cases hf : f { s with n := s.n + 1 } with
    | ok a =>
      rw [hf] at h1
      obtain ⟨e1, e2, e3⟩ := h1
      refine ⟨by omega, by omega, (exI inp x m0 (s.out, false)).1, ?_, e3⟩
      have : (st2 a).n - s.n = 1 := by omega
      rw [this, ← e2]
      exact hone
    | error e =>
      rw [hf] at h1
      obtain ⟨e1, e2, e3, e4, e5, e6⟩ := h1
      refine ⟨by omega, by omega, (exI inp x m0 (s.out, false)).1, ?_, e3, .inr ⟨e4, e5, e6⟩⟩
      have : e.2.n - s.n = 1 := by omega
      rw [this, ← e2]
      exact hone
  · rw [if_neg hlt]
    refine ⟨Nat.le_refl _, hn, m0, ?_, hc, .inl ⟨rfl, by show s.n = fuel; omega, hs⟩⟩
    show goB W inp (s.n - s.n) _ _
    rw [Nat.sub_self]
    exact ⟨rfl, fun k hk => absurd hk (by omega)⟩
/-- One instruction that prints nothing. -/
theorem Sims.tick1 {x : Is} (hx : W[m0.next]? = some x) (hs : m0.state = 0) (hc : m0.cells = s.cells) (hn : s.n ≤ fuel) (hp : (exI inp x m0 (s.out, false)).2 = (s.out, false)) : Sims W inp fuel m0 s (E.tick fuel s) id (fun s2 m => s2 = { s with n := s.n + 1 } ∧ m = (exI inp x m0 (s.out, false)).1) := by
  have h := Sims.tick (W := W) (inp := inp) (fuel := fuel) (m0 := m0) (s := s) (f := fun s2 => Except.ok s2) (st2 := id) (tgt2 := fun s2 m => s2 = { s with n := s.n + 1 } ∧ m = (exI inp x m0 (s.out, false)).1) hx hs hc hn (fun _ => ⟨rfl, hp, rfl, rfl⟩)
  have e : bndX (E.tick fuel s) (fun s2 => Except.ok s2) = E.tick fuel s := by
    cases E.tick fuel s <;> rfl
  rw [e] at h
  exact h
end
end E
end Go.Proofs.Ytmdjgejahnmfmae

/- Plain mathematics of what a program says, second part: what expressions and statements say is what instructions do. -/
namespace Go.Proofs.Ytmdjgejahnmfmae
set_option maxRecDepth 20000
set_option maxHeartbeats 4000000
namespace E

def Seg (W : List Is) (i : Nat) (l : List Is) : Prop := ∀ j x, l[j]? = some x → W[i + j]? = some x
theorem Seg.left {W : List Is} {i : Nat} {a b : List Is} (h : Seg W i (a ++ b)) : Seg W i a := fun j x hx => h j x (by
  have hj := (List.getElem?_eq_some_iff.1 hx).1
  rw [List.getElem?_append_left hj]; exact hx)
theorem Seg.right {W : List Is} {i : Nat} {a b : List Is} (h : Seg W i (a ++ b)) : Seg W (i + a.length) b := fun j x hx => by
  have := h (a.length + j) x (by rw [List.getElem?_append_right (by omega), Nat.add_sub_cancel_left]; exact hx)
  rw [← Nat.add_assoc] at this
  exact this
theorem Seg.head {W : List Is} {i : Nat} {x : Is} {b : List Is} (h : Seg W i (x :: b)) : W[i]? = some x ∧ Seg W (i + 1) b :=
  ⟨h 0 x rfl, fun j y hy => by
    have := h (j + 1) y hy
    rw [Nat.add_comm j 1, ← Nat.add_assoc] at this
    exact this⟩
theorem top_app (s : List Int) (x : Int) : topS (s ++ [x]) = x := by simp [topS]
theorem drop_app (s : List Int) (x : Int) : (s ++ [x]).dropLast = s := by simp

section
variable {vs : List VarT} {W : List Is} {inp : List Int} {fuel : Nat}
mutual
theorem simE : ∀ (t : ET) {d k k' : Nat}, chkE vs.length t d k = .ok k' → ∀ (i : Nat) (s : List Int) (e : Es), Seg W i (insE vs t) → e.n ≤ fuel →
    Sims W inp fuel (mdOf i s e) e (evE vs fuel t e) (fun a => a.2) (fun a m => m = mdOf (i + (insE vs t).length) (s ++ [a.1]) a.2)
  | .mk op v n l, d, k, k', h, i, s, e, hW, hn => by
    obtain ⟨_, h1, k1, h2⟩ := chkE_inv h
    obtain ⟨a1, a2, a3, _, _, _⟩ := ownE_inv h1
    obtain ⟨p1, p2, p3, p4⟩ := parts_le a3
    simp only [insE] at hW ⊢
    simp only [evE]
    refine Sims.bnd (simEs l h2 i s e hW.left hn) ?_
    rintro ⟨xs, s1⟩ m _ ⟨rfl, hxl⟩ _ hn1
    simp only at hn1 hxl ⊢
    obtain ⟨hx, _⟩ := hW.right.head
    refine Sims.tick hx rfl rfl hn1 ?_
    intro _
    have hlen : ∀ x : Is, i + (insEs vs l ++ [x]).length = i + (insEs vs l).length + 1 := fun x => by simp; omega
    unfold sayE
    by_cases e1 : op = 1
    · subst e1
      have hx0 : xs = [] := List.eq_nil_of_length_eq_zero (by have := p2 (.inl rfl); omega)
      subst hx0
      rw [if_pos rfl]
      refine ⟨rfl, rfl, ?_⟩
      rw [hlen]
      simp [exI, mdOf]
    rw [if_neg e1]
    by_cases e2 : op = 2
    · subst e2
      have hx0 : xs = [] := List.eq_nil_of_length_eq_zero (by have := p2 (.inr rfl); omega)
      subst hx0
      rw [if_pos rfl]
      refine ⟨rfl, rfl, ?_⟩
      rw [hlen]
      simp [exI, mdOf]
    rw [if_neg e2]
    by_cases e3 : op = 3
    · subst e3
      obtain ⟨y, rfl⟩ : ∃ y, xs = [y] := by
        have := p3 rfl
        match xs, hxl with
        | [y], _ => exact ⟨y, rfl⟩
        | [], hxl => simp at hxl; omega
        | _ :: _ :: _, hxl => simp at hxl; omega
      rw [if_pos rfl]
      have hy : [y].getD 0 0 = y := rfl
      rw [hy]
      by_cases hr : 0 ≤ y ∧ y < sizeV vs v
      · rw [if_pos hr]
        refine ⟨rfl, ?_, ?_⟩
        · simp [exI, mdOf, top_app, hr]
        · rw [hlen]
          simp [exI, mdOf, top_app, hr]
      · rw [if_neg hr]
        refine ⟨rfl, ?_, ?_, (by show (11 : Nat) ≠ 13; decide), (by show (11 : Nat) ≠ 0; decide), ?_⟩
        · simp [exI, mdOf, top_app, hr]
        · simp [exI, mdOf, top_app, hr]
        · simp [exI, mdOf, top_app, hr]
    rw [if_neg e3]
    obtain ⟨z, y, rfl⟩ : ∃ z y, xs = [z, y] := by
      have := p4 (by omega)
      match xs, hxl with
      | [z, y], _ => exact ⟨z, y, rfl⟩
      | [], hxl => simp at hxl; omega
      | [_], hxl => simp at hxl; omega
      | _ :: _ :: _ :: _, hxl => simp at hxl; omega
    have hs2 : s ++ [z, y] = (s ++ [z]) ++ [y] := by simp
    have hex : ∀ A B, exI inp (op, A, B, n) (mdOf (i + (insEs vs l).length) (s ++ [z, y]) s1) (s1.out, false) = (mdOf (i + (insEs vs l).length + 1) (s ++ [ariI op z y]) { s1 with n := s1.n + 1 }, (s1.out, false)) := fun A B => by
      unfold exI
      simp only
      rw [if_neg e1, if_neg e2, if_neg e3, if_pos ⟨by omega, a2⟩]
      simp only [mdOf, hs2, top_app, drop_app]
    refine ⟨rfl, by rw [hex], ?_⟩
    rw [hlen, hex]
    simp
theorem simEs : ∀ (l : List ET) {d k k' : Nat}, chkEs vs.length l d k = .ok k' → ∀ (i : Nat) (s : List Int) (e : Es), Seg W i (insEs vs l) → e.n ≤ fuel →
    Sims W inp fuel (mdOf i s e) e (evEs vs fuel l e) (fun a => a.2) (fun a m => m = mdOf (i + (insEs vs l).length) (s ++ a.1) a.2 ∧ a.1.length = l.length)
  | [], _, _, _, _, i, s, e, _, hn => by
    simp only [evEs]
    exact Sims.ok rfl hn ⟨by simp [insEs], rfl⟩
  | t :: r, d, k, k', h, i, s, e, hW, hn => by
    obtain ⟨⟨k1, h1⟩, k2, h2⟩ := chkEs_inv h
    simp only [insEs] at hW ⊢
    simp only [evEs]
    refine Sims.bnd (simE t h1 i s e hW.left hn) ?_
    rintro ⟨x, s1⟩ m _ rfl _ hn1
    refine Sims.bnd (simEs r h2 _ (s ++ [x]) s1 hW.right hn1) ?_
    rintro ⟨xs, s2⟩ m _ ⟨rfl, hxl⟩ _ hn2
    refine Sims.ok rfl hn2 ⟨?_, by simp only [List.length_cons]; simp only at hxl; omega⟩
    simp [Nat.add_assoc]
end

mutual
theorem simS : ∀ (t : ST) {d k k' : Nat}, chkS vs.length t d k = .ok k' → ∀ (i : Nat) (e : Es), Seg W i (insS vs t i) → e.n ≤ fuel →
    Sims W inp fuel (mdOf i [] e) e (evS vs inp fuel t e) id (fun a m => m = mdOf (i + (insS vs t i).length) [] a)
  | .mk op v e f b o, d, k, k', h, i, s, hW, hn => by
    obtain ⟨hd, h1, h2, h3, ⟨k1, k2, h4⟩, k3, k4, h5⟩ := chkS_inv h
    obtain ⟨a1, a2, _⟩ := ownS_inv h1
    have sb := fun i e => simSs b h4 i e
    have so := fun i e => simSs o h5 i e
    simp only [evS]
    simp only [insS] at hW ⊢
    by_cases e5 : op = 5
    · subst e5
      rw [if_pos rfl] at hW ⊢
      rw [if_pos rfl]
      obtain ⟨_, _, hce⟩ := h2 rfl
      have hEI : eI vs 5 e = insE vs e := rfl
      rw [hEI] at hW ⊢
      obtain ⟨X, hX⟩ : ∃ X, X = insSs vs b (i + (insE vs e).length + 1) := ⟨_, rfl⟩
      have hsb := sb (i + (insE vs e).length + 1)
      rw [← hX] at hW hsb ⊢
      have hwl : (whileI i (insE vs e) X).length = (insE vs e).length + 1 + X.length + 1 := by simp [whileI]; omega
      rw [hwl]
      unfold whileI at hW
      obtain ⟨hx1, hW2⟩ := hW.right.head
      obtain ⟨hx2, _⟩ := hW2.right.head
      have loop : ∀ (g : Nat) (s : Es), s.n ≤ fuel → fuel < g + s.n → Sims W inp fuel (mdOf i [] s) s (loopX fuel (evE vs fuel e) (evSs vs inp fuel b) g s) id (fun a m => m = mdOf (i + ((insE vs e).length + 1 + X.length + 1)) [] a) := by
        intro g
        induction g with
        | zero => intro s hs hg; omega
        | succ g ih =>
          intro s hs hg
          simp only [loopX]
          refine Sims.bnd (simE e hce i [] s hW.left hs) ?_
          rintro ⟨x, s1⟩ m _ rfl hn01 hn1
          simp only at hn01 hn1 ⊢
          refine Sims.bnd (Sims.tick1 hx1 rfl rfl hn1 rfl) ?_
          rintro s2 m _ ⟨rfl, rfl⟩ hn12 hn2
          simp only [id] at hn12 hn2 ⊢
          have hex : (exI inp (13, ((i + (insE vs e).length + 1 + X.length + 1 : Nat) : Int), 0, 0) (mdOf (i + (insE vs e).length) ([] ++ [x]) s1) (s1.out, false)).1 = mdOf (if x = 0 then i + (insE vs e).length + 1 + X.length + 1 else i + (insE vs e).length + 1) [] { s1 with n := s1.n + 1 } := by
            simp [exI, mdOf, topS]
            split <;> omega
          rw [hex]
          by_cases hx0 : x = 0
          · rw [if_pos hx0, if_pos hx0]
            exact Sims.ok rfl hn2 (by congr 1; omega)
          · rw [if_neg hx0, if_neg hx0]
            refine Sims.bnd (hsb { s1 with n := s1.n + 1 } hW2.left hn2) ?_
            rintro s3 m _ rfl hn23 hn3
            simp only [id] at hn23 hn3 ⊢
            refine Sims.bnd (Sims.tick1 hx2 rfl rfl hn3 rfl) ?_
            rintro s4 m _ ⟨rfl, rfl⟩ hn34 hn4
            simp only [id] at hn34 hn4 ⊢
            have hex2 : (exI inp (14, ((i : Nat) : Int), 0, 0) (mdOf (i + (insE vs e).length + 1 + X.length) [] s3) (s3.out, false)).1 = mdOf i [] { s3 with n := s3.n + 1 } := by
              simp [exI, mdOf]
            rw [hex2]
            exact ih _ hn4 (by show fuel < g + (s3.n + 1); omega)
      exact loop (fuel + 1) s hn (by omega)
    rw [if_neg e5] at hW ⊢
    rw [if_neg e5]
    by_cases e6 : op = 6
    · subst e6
      rw [if_pos rfl] at hW ⊢
      rw [if_pos rfl]
      obtain ⟨_, _, hce⟩ := h2 rfl
      have hEI : eI vs 6 e = insE vs e := rfl
      rw [hEI] at hW ⊢
      obtain ⟨X, hX⟩ : ∃ X, X = insSs vs b (i + (insE vs e).length + 1) := ⟨_, rfl⟩
      have hsb := sb (i + (insE vs e).length + 1)
      rw [← hX] at hW hsb ⊢
      obtain ⟨Y, hY⟩ : ∃ Y, Y = insSs vs o (i + (insE vs e).length + 1 + X.length + 1) := ⟨_, rfl⟩
      have hso := so (i + (insE vs e).length + 1 + X.length + 1)
      rw [← hY] at hW hso ⊢
      have hwl : (ifI i (insE vs e) X Y).length = (insE vs e).length + 1 + X.length + 1 + Y.length := by simp [ifI]; omega
      rw [hwl]
      unfold ifI at hW
      obtain ⟨hx1, hW2⟩ := hW.right.head
      obtain ⟨hx2, hW3⟩ := hW2.right.head
      refine Sims.bnd (simE e hce i [] s hW.left hn) ?_
      rintro ⟨x, s1⟩ m _ rfl hn01 hn1
      simp only at hn01 hn1 ⊢
      refine Sims.bnd (Sims.tick1 hx1 rfl rfl hn1 rfl) ?_
      rintro s2 m _ ⟨rfl, rfl⟩ hn12 hn2
      simp only [id] at hn12 hn2 ⊢
      have hex : (exI inp (13, ((i + (insE vs e).length + 1 + X.length + 1 : Nat) : Int), 0, 0) (mdOf (i + (insE vs e).length) ([] ++ [x]) s1) (s1.out, false)).1 = mdOf (if x = 0 then i + (insE vs e).length + 1 + X.length + 1 else i + (insE vs e).length + 1) [] { s1 with n := s1.n + 1 } := by
        simp [exI, mdOf, topS]
        split <;> omega
      rw [hex]
      by_cases hx0 : x = 0
      · rw [if_pos hx0, if_pos hx0]
        refine (hso { s1 with n := s1.n + 1 } hW3 hn2).mono ?_
        rintro a m rfl
        congr 1
        omega
      · rw [if_neg hx0, if_neg hx0]
        refine Sims.bnd (hsb { s1 with n := s1.n + 1 } hW2.left hn2) ?_
        rintro s3 m _ rfl hn23 hn3
        simp only [id] at hn23 hn3 ⊢
        refine (Sims.tick1 hx2 rfl rfl hn3 rfl).mono ?_
        rintro s4 m ⟨rfl, rfl⟩
        simp [exI, mdOf]
        omega
    rw [if_neg e6] at hW ⊢
    rw [if_neg e6]
    have hsegE := hW.left
    have hsegF := hW.right.left
    obtain ⟨hx, _⟩ := hW.right.right.head
    have hlen : i + (eI vs op e ++ (fI vs op f ++ [lastI vs op v])).length = i + (eI vs op e).length + (fI vs op f).length + 1 := by simp; omega
    rw [hlen]
    have sE : Sims W inp fuel (mdOf i [] s) s (if needE op then evE vs fuel e s else .ok (0, s)) (fun a => a.2) (fun a m => m = mdOf (i + (eI vs op e).length) (if needE op then [a.1] else []) a.2) := by
      unfold eI at hsegE ⊢
      cases hne : needE op with
      | false => exact Sims.ok rfl hn rfl
      | true =>
        obtain ⟨_, _, hc⟩ := h2 hne
        rw [hne] at hsegE
        exact simE e hc i [] s hsegE hn
    refine Sims.bnd sE ?_
    rintro ⟨x, s1⟩ m _ rfl _ hn1
    simp only at hn1 ⊢
    have sF : Sims W inp fuel (mdOf (i + (eI vs op e).length) (if needE op then [x] else []) s1) s1 (if needF op then evE vs fuel f s1 else .ok (0, s1)) (fun a => a.2) (fun a m => m = mdOf (i + (eI vs op e).length + (fI vs op f).length) ((if needE op then [x] else []) ++ (if needF op then [a.1] else [])) a.2) := by
      unfold fI at hsegF ⊢
      cases hnf : needF op with
      | false => exact Sims.ok rfl hn1 (by simp)
      | true =>
        obtain ⟨_, _, hc⟩ := h3 hnf
        rw [hnf] at hsegF
        exact simE f hc _ _ s1 hsegF hn1
    refine Sims.bnd sF ?_
    rintro ⟨y, s2⟩ m _ rfl _ hn2
    simp only at hn2 ⊢
    refine Sims.tick hx rfl rfl hn2 ?_
    intro _
    have hop : op = 1 ∨ op = 2 ∨ op = 3 ∨ op = 4 ∨ op = 7 := by omega
    rcases hop with rfl | rfl | rfl | rfl | rfl
    · exact ⟨rfl, rfl, by simp [exI, lastI, mdOf, needE, needF, topS]⟩
    · by_cases hr : 0 ≤ x ∧ x < sizeV vs v
      · have e9 : sayS vs inp 2 v x y { s2 with n := s2.n + 1 } = .ok { s2 with n := s2.n + 1, cells := s2.cells.set (cellOf vs v + x).toNat y } := by simp [sayS, hr]
        rw [e9]
        exact ⟨rfl, by simp [exI, lastI, mdOf, needE, needF, topS, hr], by simp [exI, lastI, mdOf, needE, needF, topS, hr]⟩
      · have e9 : sayS vs inp 2 v x y { s2 with n := s2.n + 1 } = .error (11, { s2 with n := s2.n + 1 }) := by simp [sayS, hr]
        rw [e9]
        exact ⟨rfl, by simp [exI, lastI, mdOf, needE, needF, topS, hr], by simp [exI, lastI, mdOf, needE, needF, topS, hr], (by show (11 : Nat) ≠ 13; decide), (by show (11 : Nat) ≠ 0; decide), by simp [exI, lastI, mdOf, needE, needF, topS, hr]⟩
    · refine ⟨rfl, ?_, ?_⟩
      · simp [exI, lastI, mdOf, needE, needF, topS, putP]
      · simp [exI, lastI, mdOf, needE, needF]
    · by_cases hr : s2.read < inp.length
      · have e9 : sayS vs inp 4 v x y { s2 with n := s2.n + 1 } = .ok { s2 with n := s2.n + 1, cells := s2.cells.set (cellOf vs v).toNat (inp.getD s2.read 0), read := s2.read + 1 } := by simp [sayS, hr]
        rw [e9]
        exact ⟨rfl, by simp [exI, lastI, mdOf, needE, needF, hr], by simp [exI, lastI, mdOf, needE, needF, hr]⟩
      · have e9 : sayS vs inp 4 v x y { s2 with n := s2.n + 1 } = .error (12, { s2 with n := s2.n + 1 }) := by simp [sayS, hr]
        rw [e9]
        exact ⟨rfl, by simp [exI, lastI, mdOf, needE, needF, hr], by simp [exI, lastI, mdOf, needE, needF, hr], (by show (12 : Nat) ≠ 13; decide), (by show (12 : Nat) ≠ 0; decide), by simp [exI, lastI, mdOf, needE, needF, hr]⟩
    · exact ⟨rfl, rfl, by simp [exI, lastI, mdOf, needE, needF]⟩
theorem simSs : ∀ (l : List ST) {d k k' : Nat}, chkSs vs.length l d k = .ok k' → ∀ (i : Nat) (e : Es), Seg W i (insSs vs l i) → e.n ≤ fuel →
    Sims W inp fuel (mdOf i [] e) e (evSs vs inp fuel l e) id (fun a m => m = mdOf (i + (insSs vs l i).length) [] a)
  | [], _, _, _, _, i, e, _, hn => by
    simp only [evSs]
    exact Sims.ok rfl hn (by simp [insSs])
  | t :: r, d, k, k', h, i, e, hW, hn => by
    obtain ⟨⟨k1, h1⟩, k2, h2⟩ := chkSs_inv h
    simp only [insSs] at hW ⊢
    simp only [evSs]
    refine Sims.bnd (simS t h1 i e hW.left hn) ?_
    rintro s1 m _ rfl _ hn1
    refine (simSs r h2 _ s1 hW.right hn1).mono ?_
    rintro a m rfl
    simp [Nat.add_assoc]
end
end
end E
end Go.Proofs.Ytmdjgejahnmfmae
