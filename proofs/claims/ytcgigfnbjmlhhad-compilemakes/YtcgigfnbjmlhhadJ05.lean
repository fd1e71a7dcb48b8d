/- Several texts in one: CmC, CmD, TreeO, GrowO, CoH. -/
import Derived.Test.YtcgigfnbjmlhhadJ03
import Derived.Test.YtcgigfnbjmlhhadJ04
/- Contracts of the document's instructions: exprCode, listCode, stmtCode, CodeOf. -/
namespace Go.Proofs.Ytcgigfnbjmlhhad
set_option maxRecDepth 20000
set_option maxHeartbeats 4000000
namespace E
open Go.Proofs

theorem built_ri03 (a n : Int) : Try.prog.built tRI [(0, .int .i64 a), (3, .int .i64 n)] = some (iC (a, 0, 0, n)).toArray := by kernel_rfl
theorem built_ri0 (a : Int) : Try.prog.built tRI [(0, .int .i64 a)] = some (iC (a, 0, 0, 0)).toArray := by kernel_rfl
theorem built_ri1 (a b : Int) : Try.prog.built tRI [(0, .int .i64 a), (1, .int .i64 b)] = some (iC (a, b, 0, 0)).toArray := by kernel_rfl
theorem built_ri2 (a b c : Int) : Try.prog.built tRI [(0, .int .i64 a), (1, .int .i64 b), (2, .int .i64 c)] = some (iC (a, b, c, 0)).toArray := by kernel_rfl
theorem zero_ri : ((Try.prog.info? tRI).bind (·.zero)).map (·.cells) = some (iC (0, 0, 0, 0)).toArray := by kernel_rfl
theorem size_ri : sizeOk Try.prog tRI 4 = true := by kernel_rfl
theorem size_in : sizeOk Try.prog 3 1 = true := by kernel_rfl
theorem slice_ri (x : Is) : sliceCells Try.prog 34 1 [(0, .agg (iC x).toArray)] = some (tRI, (iC x).toArray) := by
  obtain ⟨a, b, c, d⟩ := x
  kernel_rfl
theorem app_ri : appOk Try.prog 34 tRI 4 32 = true := by decide +kernel
theorem iC_one (x : Is) : ∀ u ∈ iC x, u.oneCell' = true := by
  intro u hu
  simp only [iC, List.mem_cons, List.not_mem_nil, or_false] at hu
  rcases hu with rfl | rfl | rfl | rfl <;> rfl
theorem one_in (a : Int) : ∀ u ∈ [Value.int .i64 a], u.oneCell' = true := by
  intro u hu
  simp only [List.mem_cons, List.not_mem_nil, or_false] at hu
  subst hu
  rfl
theorem ins_one {w : World} {b e : Nat} {x : Is} (hb : Blk w b (iC x) e) : InsV (fun c => c = b) w (.slice (some ⟨b, 0, none⟩) 1 1) [x] :=
  ⟨_, 1, rfl, fun _ => ⟨b, 0, rfl, rfl, hb.range (by simp [isC, iC])⟩⟩
theorem row_keep {e : Nat} {w w' w2 : World} {v : Value} {l : List Is} (h : RowI e w w2.heap.size v l) (hk : Keep [] w2 w) (hk' : Keep v.ownBlock.toList w w') : Keep [] w2 w' := hk.trans hk' fun k hm => .inr (h.own k hm).1

theorem exprCode_ret {vs : List VarT} {bd : List ST} (hs : Sized vs) {av ab : Option Addr} {capv capb : Nat} : ∀ (s : Nat) (t : ET), szE t < s → szE t ≤ 100000 → gdE vs.length t → ∀ {F : Nat → Prop} {w : World} {cs : List Value}, ProgV F w (.agg #[.slice av vs.length capv, .slice ab bd.length capb]) vs bd → ExprV F w cs t → In F w →
    Ret Try.prog 53 [.agg #[.slice av vs.length capv, .slice ab bd.length capb], .agg cs.toArray] w fun r w' => RowI tRI w' w.heap.size r (insE vs t) ∧ Keep [] w w' := by
  intro s
  induction s with
  | zero => intro t ht; omega
  | succ s ihs =>
    intro t ht ht3 hgd F w cs hp hX hF
    obtain ⟨op, v, n, l⟩ := t
    obtain ⟨lv, rfl, hE⟩ := hX.inv
    obtain ⟨a, cap, rfl⟩ := hE.form
    obtain ⟨hg1, hg2⟩ := hgd
    simp only [szE] at ht ht3
    have hlen := szEs_len l
    have hil := insEs_len vs l
    refine ret_of 57 Try.func53 rfl rfl (by simp) ?_
    refine au ?_
    refine pl_op rfl rfl (opTo_boxN [.slice av vs.length capv, .slice ab bd.length capb] rfl rfl rfl ?_)
    intro w1 x1 hx1 hs1 hk1 hX1'
    refine pl_op rfl rfl (opTo_boxN [.int .i64 op, .int .i64 v, .int .i64 n, .slice a l.length cap] rfl rfl rfl ?_)
    intro w2 x2 hx2 hs2 hk2 hX2
    have hX1 := hk2.blk hX1' (by simp)
    have hk := hk1.tr hk2
    have hp2 := hp.keep hk hF.stays
    have hE2 := hE.keep hk hF.stays
    have hF2 := hF.keep hk
    have hsz2 : w.heap.size ≤ w2.heap.size := hk.size
    clear hX1' hk1 hk2
    refine au ?_
    refine rn_ind (fun m σ w' => ∃ (i : Nat) (rv : Value), i ≤ l.length ∧ m = l.length - i ∧ σ = [(2, .pointer (some ⟨x1, 0, none⟩)), (3, .pointer (some ⟨x2, 0, none⟩)), (5, rv), (6, .int .i64 (i : Nat))] ∧ RowI tRI w' w2.heap.size rv (insEs vs (l.take i)) ∧ Keep [] w2 w') l.length _ ?_ ⟨0, _, by omega, by omega, rfl, RowI.nil _ _ _, Keep.refl _ _⟩ ?_
    · exact ⟨rfl, rfl, rfl, rfl, trivial⟩
    rintro m σ w6 ih ⟨i, rv, hi, rfl, rfl, hrow, hk6⟩
    have hX16 := hk6.blk hX1 (by simp)
    have hX26 := hk6.blk hX2 (by simp)
    refine au ?_
    refine pl_val _ rfl rfl (val_load1 hT rfl rfl rfl (hX26.cell rfl)) ?_
    refine au ?_
    by_cases hlt : i < l.length
    · refine ye ?_
      have hxi : l[i]? = some l[i] := List.getElem?_eq_getElem hlt
      have hszi := szEs_succ hxi
      have hszt := szEs_take l (i + 1)
      have hl1 := insEs_len vs (l.take i)
      have hl2 := insE_len vs l[i]
      have htk := insEs_take vs hxi
      obtain ⟨ra, rc, hrv⟩ := hrow.form
      obtain ⟨b1, q1, c1, ci, hv1, hF1, hr1, hc1⟩ := hE2.at hxi
      cases hv1
      refine au ?_
      refine rn_draw (fun w' => Keep [] w6 w') [8] hMix ?_
      have hS : Keep [] w6 w6.drew := (Keep.refl _ _).drew
      generalize w6.drew = w7 at *
      refine tk 0 ?_
      refine dr_val 1 (.agg #[.slice av vs.length capv, .slice ab bd.length capb]) rfl (by decide +kernel) rfl rfl (fun w9 hS9 => val_load [.slice av vs.length capv, .slice ab bd.length capb] hT rfl rfl rfl ((hS9.blk hX16 (by simp)).range (by rfl))) hS ?_
      refine tk 2 ?_
      refine dr_val 3 _ rfl (by decide +kernel) rfl rfl (fun w9 hS9 => val_load1 hT rfl rfl rfl ((hS9.blk hX26 (by simp)).cell rfl)) hS ?_
      refine tk 4 ?_
      refine dr_any 5 _ rfl (by decide +kernel) rfl rfl (fun w => val_index i hT rfl rfl rfl rfl rfl hlt w) ?_
      refine dr_val 6 (.agg ci.toArray) rfl (by decide +kernel) rfl rfl (fun w9 hS9 => val_load ci hT rfl rfl (by rw [hc1.length]; rfl) (range_keep hr1 (hk6.tr hS9) (hF2 _ hF1) (by simp))) hS ?_
      have hk27 := hk6.tr hS
      refine dr_op 7 rfl (by decide +kernel) rfl rfl (opTo_call (fst := []) (cap := []) rfl rfl rfl rfl (by decide +kernel) ((ihs l[i] (by omega) (by omega) (gdEs_at hg2 hxi) (hp2.keep hk27 hF2.stays) (hc1.keep hk27 hF2.stays) (hF2.keep hk27)).mono ?_))
      rintro r w8 ⟨hrow8, hk8⟩
      refine ⟨fun _ => hS.tr hk8, ?_⟩
      have hrv8 := hrow.keep0 (hS.tr hk8)
      have hk28 := hk27.tr hk8
      refine dr_op 8 rfl (by decide +kernel) rfl rfl (opTo_rowApp (insEs vs (l.take i)) (insE vs l[i]) rfl rfl rfl app_ri hrv8 hrow8.ins (by omega) hk28.size ?_)
      intro v9 w9 hrow9 hk9
      refine ⟨fun h => absurd (by simp) h, ?_⟩
      refine tk 9 ?_
      refine dr_done (by decide +kernel) ?_
      refine au ?_
      refine pl_num (((i + 1 : Nat) : Int)) rfl rfl rfl rfl rfl (by simp only [ariP]; omega) ?_
      refine au ?_
      refine rn_sub ?_ (ih (l.length - (i + 1)) [(2, .pointer (some ⟨x1, 0, none⟩)), (3, .pointer (some ⟨x2, 0, none⟩)), (5, v9), (6, .int .i64 ((i + 1 : Nat) : Int))] w9 (by omega) ⟨i + 1, v9, by omega, rfl, rfl, ?_, row_keep hrv8 hk28 hk9⟩)
      · exact ⟨rfl, rfl, rfl, rfl, trivial⟩
      · rw [htk]; exact hrow9
    · refine nay ?_
      rw [List.take_of_length_le (by omega)] at hrow
      refine au ?_
      refine pl_val _ rfl rfl (val_load1 hT rfl rfl rfl (hX26.cell rfl)) ?_
      refine au ?_
      refine pl_val _ rfl rfl (val_load1 hT rfl rfl rfl (hX26.cell rfl)) ?_
      refine pl_val _ rfl rfl (val_build _ rfl rfl (built_ri03 op n) w6) ?_
      refine pl_op rfl rfl (opTo_allocN _ rfl zero_ri ?_)
      intro w7 x7 hx7 hs7 hk7 hb7
      refine pl_op rfl rfl (opTo_storeN (iC (op, 0, 0, n)) rfl rfl rfl rfl size_ri hb7 (by simp [iC]) (iC_one _) ?_)
      intro w8 hs8 hk8 hb8
      rw [splice_whole (by rfl)] at hb8
      have hk68 : Keep [] w6 w8 := hk7.trB hk8 (by omega)
      have hne : ∀ k ∈ rv.ownBlock.toList, k < x7 := fun k hm => by have := (hrow.own k hm).2; omega
      have hx72 : w2.heap.size ≤ x7 := by have := hk6.size; omega
      refine auj ?_
      refine rn_seq ?_
      refine rn_with (fun σ' w' => Blk w' x7 (iC (op, if op = 2 ∨ op = 3 then cellOf vs v else 0, 0, n)) tRI ∧ Keep [] w6 w' ∧ Sub [(2, .pointer (some ⟨x1, 0, none⟩)), (3, .pointer (some ⟨x2, 0, none⟩)), (5, rv), (7, .pointer (some ⟨x7, 0, none⟩))] σ') ?_ ?_
      rotate_left
      · intro fin
        by_cases hop : op = 2 ∨ op = 3
        · rw [if_pos hop] at fin
          refine au ?_
          refine pl_val _ rfl rfl (val_load1 hT rfl rfl rfl ((hk68.blk hX26 (by simp)).cell rfl)) ?_
          by_cases h2 : op = 2
          · refine ye ?_
            refine auj ?_
            refine rn_plain ?_
            refine pl_val _ rfl rfl (val_load [.slice av vs.length capv, .slice ab bd.length capb] hT rfl rfl rfl ((hk68.blk hX16 (by simp)).range (by rfl))) ?_
            refine au ?_
            refine pl_val _ rfl rfl (val_load1 hT rfl rfl rfl ((hk68.blk hX26 (by simp)).cell rfl)) ?_
            refine pl_op rfl rfl (opTo_call (fst := []) (cap := []) rfl rfl rfl rfl (by decide +kernel) ((refCell_ret (hp2.keep (hk6.tr hk68) hF2.stays) (hF2.keep (hk6.tr hk68)) hs v).mono ?_))
            rintro r w9 ⟨rfl, hk9⟩
            refine au ?_
            refine pl_op rfl rfl (opTo_storeN [.int .i64 (cellOf vs v)] rfl rfl rfl rfl size_in (hk9.blk hb8 (by simp)) (by simp [iC]) (one_in _) ?_)
            intro w10 hs10 hk10 hb10
            refine auj ?_
            exact fin _ _ ⟨hb10, (hk68.tr hk9).trB hk10 (by omega), rfl, rfl, rfl, rfl, trivial⟩
          · refine nay ?_
            refine au ?_
            refine pl_val _ rfl rfl (val_load1 hT rfl rfl rfl ((hk68.blk hX26 (by simp)).cell rfl)) ?_
            refine ye ?_
            refine auj ?_
            refine rn_plain ?_
            refine pl_val _ rfl rfl (val_load [.slice av vs.length capv, .slice ab bd.length capb] hT rfl rfl rfl ((hk68.blk hX16 (by simp)).range (by rfl))) ?_
            refine au ?_
            refine pl_val _ rfl rfl (val_load1 hT rfl rfl rfl ((hk68.blk hX26 (by simp)).cell rfl)) ?_
            refine pl_op rfl rfl (opTo_call (fst := []) (cap := []) rfl rfl rfl rfl (by decide +kernel) ((refCell_ret (hp2.keep (hk6.tr hk68) hF2.stays) (hF2.keep (hk6.tr hk68)) hs v).mono ?_))
            rintro r w9 ⟨rfl, hk9⟩
            refine au ?_
            refine pl_op rfl rfl (opTo_storeN [.int .i64 (cellOf vs v)] rfl rfl rfl rfl size_in (hk9.blk hb8 (by simp)) (by simp [iC]) (one_in _) ?_)
            intro w10 hs10 hk10 hb10
            refine auj ?_
            exact fin _ _ ⟨hb10, (hk68.tr hk9).trB hk10 (by omega), rfl, rfl, rfl, rfl, trivial⟩
        · rw [if_neg hop] at fin
          refine au ?_
          refine pl_val _ rfl rfl (val_load1 hT rfl rfl rfl ((hk68.blk hX26 (by simp)).cell rfl)) ?_
          refine nay ?_
          refine au ?_
          refine pl_val _ rfl rfl (val_load1 hT rfl rfl rfl ((hk68.blk hX26 (by simp)).cell rfl)) ?_
          refine nay ?_
          refine auj ?_
          exact fin _ _ ⟨hb8, hk68, rfl, rfl, rfl, rfl, trivial⟩
      clear hb8 hk8 hs8
      rintro σ' w10 ⟨hb10, hk610, hsub⟩
      refine rn_sub hsub ?_
      refine rn_seq ?_
      refine rn_with (fun σ' w' => Blk w' x7 (iC (op, if op = 2 ∨ op = 3 then cellOf vs v else 0, if op = 3 then sizeV vs v else 0, n)) tRI ∧ Keep [] w6 w' ∧ Sub [(5, rv), (7, .pointer (some ⟨x7, 0, none⟩))] σ') ?_ ?_
      rotate_left
      · intro fin
        refine au ?_
        refine pl_val _ rfl rfl (val_load1 hT rfl rfl rfl ((hk610.blk hX26 (by simp)).cell rfl)) ?_
        by_cases h3 : op = 3
        · refine ye ?_
          rw [if_pos h3] at fin
          obtain ⟨hv0, hvl⟩ := hg1 (.inr h3)
          obtain ⟨k, rfl⟩ : ∃ k : Nat, v = (k : Nat) := ⟨v.toNat, by omega⟩
          simp only [Int.toNat_natCast] at hvl
          have hxv : vs[k]? = some vs[k] := List.getElem?_eq_getElem hvl
          obtain ⟨vv, bv, hpe, hv, _⟩ := hp2
          cases hpe
          obtain ⟨vb, vq, vc, hvv, hFv, hrv⟩ := hv.at hxv
          cases hvv
          have hsv : sizeV vs ((k : Nat) : Int) = vs[k].2 := by
            unfold sizeV
            rw [Int.toNat_natCast, List.getD_eq_getElem?_getD, hxv]
            rfl
          rw [hsv] at fin
          refine auj ?_
          refine rn_plain ?_
          refine au ?_
          refine pl_val _ rfl rfl (val_load1 hT rfl rfl rfl ((hk610.blk hX16 (by simp)).cell rfl)) ?_
          refine au ?_
          refine pl_val _ rfl rfl (val_load1 hT rfl rfl rfl ((hk610.blk hX26 (by simp)).cell rfl)) ?_
          refine pl_val _ rfl rfl (val_index k hT rfl rfl rfl rfl rfl hvl w10) ?_
          refine au ?_
          refine pl_val _ rfl rfl (val_load1 hT rfl rfl rfl ((range_keep hrv (hk6.tr hk610) (hF2 _ hFv) (by simp)) 1 (.int .i64 vs[k].2) rfl)) ?_
          refine au ?_
          refine pl_op rfl rfl (opTo_storeN [.int .i64 vs[k].2] rfl rfl rfl rfl size_in hb10 (by simp [iC]) (one_in _) ?_)
          intro w11 hs11 hk11 hb11
          refine auj ?_
          exact fin _ _ ⟨hb11, hk610.trB hk11 (by omega), rfl, rfl, trivial⟩
        · refine nay ?_
          rw [if_neg h3] at fin
          refine auj ?_
          exact fin _ _ ⟨hb10, hk610, rfl, rfl, trivial⟩
      clear hb10 hk610 hsub
      rintro σ' w11 ⟨hb11, hk611, hsub⟩
      refine rn_sub hsub ?_
      obtain ⟨X, hX⟩ : ∃ X : Is, X = (op, if op = 2 ∨ op = 3 then cellOf vs v else 0, if op = 3 then sizeV vs v else 0, n) := ⟨_, rfl⟩
      rw [← hX] at hb11
      refine au ?_
      refine pl_val (.agg (iC X).toArray) rfl rfl (val_load (iC X) hT rfl rfl rfl (hb11.range (by rfl))) ?_
      refine pl_op rfl rfl (opTo_sliceN tRI (iC X) rfl rfl (slice_ri X) ?_)
      intro w12 g hg hs12 hk12 hb12
      have hrow12 := hrow.keep0 (hk611.tr hk12)
      refine pl_op rfl rfl (opTo_rowApp (insEs vs l) [X] rfl rfl rfl app_ri hrow12 (ins_one hb12) (by simp; omega) ((hk6.tr hk611).tr hk12).size ?_)
      intro v13 w13 hrow13 hk13
      refine au ?_
      refine rn_ret Try.func53 (.inl ⟨_, rfl, rfl⟩) ⟨?_, hk.tr (row_keep hrow12 ((hk6.tr hk611).tr hk12) hk13)⟩
      simp only [insE]
      rw [← hX]
      exact hrow13.lower hsz2
end E
end Go.Proofs.Ytcgigfnbjmlhhad

/- Contracts of the document's instructions: listCode, stmtCode, CodeOf. -/
namespace Go.Proofs.Ytcgigfnbjmlhhad
set_option maxRecDepth 20000
set_option maxHeartbeats 4000000
namespace E
open Go.Proofs

/-- stmtCode does for what is smaller. -/
def StC (vs : List VarT) (bd : List ST) (av ab : Option Addr) (capv capb : Nat) (s : Nat) : Prop := ∀ (t : ST), szS t < s → szS t ≤ 100000 → gdS vs.length t → ∀ {F : Nat → Prop} {w : World} {cs : List Value} {i0 : Nat}, ProgV F w (.agg #[.slice av vs.length capv, .slice ab bd.length capb]) vs bd → StmtV F w cs t → In F w → i0 + 2 * szS t ≤ 1000000 →
    Ret Try.prog 38 [.agg #[.slice av vs.length capv, .slice ab bd.length capb], .agg cs.toArray, .int .i64 (i0 : Nat)] w fun r w' => RowI tRI w' w.heap.size r (insS vs t i0) ∧ Keep [] w w'

theorem listCode_ret {vs : List VarT} {bd : List ST} {av ab : Option Addr} {capv capb : Nat} {s : Nat} (hst : StC vs bd av ab capv capb s) (l : List ST) (hls : szSs l < s) (hl3 : szSs l ≤ 100000) (hgd : gdSs vs.length l) {F : Nat → Prop} {w : World} {x : Value} {i0 : Nat} (hp : ProgV F w (.agg #[.slice av vs.length capv, .slice ab bd.length capb]) vs bd) (hE : StmtsV F w x l) (hF : In F w) (hi0 : i0 + 2 * szSs l ≤ 1000000) :
    Ret Try.prog 23 [.agg #[.slice av vs.length capv, .slice ab bd.length capb], x, .int .i64 (i0 : Nat)] w fun r w' => RowI tRI w' w.heap.size r (insSs vs l i0) ∧ Keep [] w w' := by
  obtain ⟨a, cap, rfl⟩ := hE.form
  have hlen := szSs_len l
  refine ret_of 28 Try.func23 rfl rfl (by simp) ?_
  refine au ?_
  refine pl_op rfl rfl (opTo_boxN [.slice av vs.length capv, .slice ab bd.length capb] rfl rfl rfl ?_)
  intro w2 x1 hx1 hs1 hk hX1
  have hp2 := hp.keep hk hF.stays
  have hE2 := hE.keep hk hF.stays
  have hF2 := hF.keep hk
  have hsz2 : w.heap.size ≤ w2.heap.size := hk.size
  refine au ?_
  refine rn_ind (fun m σ w' => ∃ (i : Nat) (rv : Value), i ≤ l.length ∧ m = l.length - i ∧ σ = [(1, .slice a l.length cap), (2, .int .i64 (i0 : Nat)), (3, .pointer (some ⟨x1, 0, none⟩)), (7, rv), (8, .int .i64 (i : Nat))] ∧ RowI tRI w' w2.heap.size rv (insSs vs (l.take i) i0) ∧ Keep [] w2 w') l.length _ ?_ ⟨0, _, by omega, by omega, rfl, RowI.nil _ _ _, Keep.refl _ _⟩ ?_
  · exact ⟨rfl, rfl, rfl, rfl, rfl, trivial⟩
  rintro m σ w6 ih ⟨i, rv, hi, rfl, rfl, hrow, hk6⟩
  have hX16 := hk6.blk hX1 (by simp)
  refine au ?_
  by_cases hlt : i < l.length
  · refine ye ?_
    have hxi : l[i]? = some l[i] := List.getElem?_eq_getElem hlt
    have hszi := szSs_succ hxi
    have hszt := szSs_take l (i + 1)
    have hl1 := insSs_len vs (l.take i) i0
    have htk := insSs_take vs hxi i0
    obtain ⟨Q, hQ⟩ : ∃ Q, Q = insSs vs (l.take i) i0 := ⟨_, rfl⟩
    rw [← hQ] at hrow hl1 htk
    have hl2 := insS_len vs l[i] (i0 + Q.length)
    obtain ⟨ra, rc, rfl⟩ := hrow.form
    obtain ⟨b1, q1, c1, ci, hv1, hF1, hr1, hc1⟩ := hE2.at hxi
    cases hv1
    refine au ?_
    refine rn_draw (fun w' => Keep [] w6 w') [11] hMix ?_
    have hS : Keep [] w6 w6.drew := (Keep.refl _ _).drew
    generalize w6.drew = w7 at *
    refine tk 0 ?_
    refine dr_val 1 (.agg #[.slice av vs.length capv, .slice ab bd.length capb]) rfl (by decide +kernel) rfl rfl (fun w9 hS9 => val_load [.slice av vs.length capv, .slice ab bd.length capb] hT rfl rfl rfl ((hS9.blk hX16 (by simp)).range (by rfl))) hS ?_
    refine tk 2 ?_
    refine tk 3 ?_
    refine dr_any 4 _ rfl (by decide +kernel) rfl rfl (fun w => val_index i hT rfl rfl rfl rfl rfl hlt w) ?_
    refine dr_val 5 (.agg ci.toArray) rfl (by decide +kernel) rfl rfl (fun w9 hS9 => val_load ci hT rfl rfl (by rw [hc1.length]; rfl) (range_keep hr1 (hk6.tr hS9) (hF2 _ hF1) (by simp))) hS ?_
    refine tk 6 ?_
    refine tk 7 ?_
    refine tk 8 ?_
    refine dr_num 9 (((i0 + Q.length : Nat) : Int)) rfl (by decide +kernel) rfl rfl rfl rfl rfl (by simp only [ariP]; omega) ?_
    have hk27 := hk6.tr hS
    refine dr_op 10 rfl (by decide +kernel) rfl rfl (opTo_call (fst := []) (cap := []) rfl rfl rfl rfl (by decide +kernel) ((hst l[i] (by omega) (by omega) (gdSs_at hgd hxi) (hp2.keep hk27 hF2.stays) (hc1.keep hk27 hF2.stays) (hF2.keep hk27) (by omega)).mono ?_))
    rintro r w8 ⟨hrow8, hk8⟩
    refine ⟨fun _ => hS.tr hk8, ?_⟩
    have hrv8 := hrow.keep0 (hS.tr hk8)
    have hk28 := hk27.tr hk8
    refine dr_op 11 rfl (by decide +kernel) rfl rfl (opTo_rowApp Q (insS vs l[i] (i0 + Q.length)) rfl rfl rfl app_ri hrv8 hrow8.ins (by omega) hk28.size ?_)
    intro v9 w9 hrow9 hk9
    refine ⟨fun h => absurd (by simp) h, ?_⟩
    refine tk 12 ?_
    refine dr_done (by decide +kernel) ?_
    refine au ?_
    refine pl_num (((i + 1 : Nat) : Int)) rfl rfl rfl rfl rfl (by simp only [ariP]; omega) ?_
    refine au ?_
    refine rn_sub ?_ (ih (l.length - (i + 1)) [(1, .slice (some ⟨b1, q1, none⟩) l.length cap), (2, .int .i64 (i0 : Nat)), (3, .pointer (some ⟨x1, 0, none⟩)), (7, v9), (8, .int .i64 ((i + 1 : Nat) : Int))] w9 (by omega) ⟨i + 1, v9, by omega, rfl, rfl, ?_, row_keep hrv8 hk28 hk9⟩)
    · exact ⟨rfl, rfl, rfl, rfl, rfl, trivial⟩
    · rw [htk]; exact hrow9
  · refine nay ?_
    rw [List.take_of_length_le (by omega)] at hrow
    refine au ?_
    exact rn_ret Try.func23 (.inl ⟨_, rfl, rfl⟩) ⟨hrow.lower hsz2, hk.tr hk6⟩

theorem stmtCode_ret {vs : List VarT} {bd : List ST} (hs : Sized vs) {av ab : Option Addr} {capv capb : Nat} : ∀ (s : Nat), StC vs bd av ab capv capb s := by
  intro s
  induction s with
  | zero => intro t ht; omega
  | succ s ihs =>
    intro t ht ht3 hgd F w cs i0 hp hX hF hi0
    obtain ⟨op, v, e, f, lb, lo⟩ := t
    obtain ⟨ce, cf, bv, ov, rfl, he, hf, hb, ho⟩ := hX.inv
    obtain ⟨e0, e1, e2, e3, rfl⟩ := list4 he.length
    obtain ⟨f0, f1, f2, f3, rfl⟩ := list4 hf.length
    obtain ⟨ba, bc, rfl⟩ := hb.form
    obtain ⟨oa, oc, rfl⟩ := ho.form
    obtain ⟨hp1, hp2, hp3, hp4, hp5, hp6, hp7⟩ := hgd
    simp only [szS] at ht ht3 hi0
    refine ret_of 121 Try.func38 rfl rfl (by simp) ?_
    refine au ?_
    refine pl_op rfl rfl (opTo_boxN [.slice av vs.length capv, .slice ab bd.length capb] rfl rfl rfl ?_)
    intro w1 x1 hx1 hs1 hk1 hX1'
    refine pl_op rfl rfl (opTo_boxN [.int .i64 op, .int .i64 v, e0, e1, e2, e3, f0, f1, f2, f3, .slice ba lb.length bc, .slice oa lo.length oc] rfl rfl rfl ?_)
    intro w2 x2 hx2 hs2 hk2 hX2
    have hX1 := hk2.blk hX1' (by simp)
    have hk := hk1.tr hk2
    have hq2 := hp.keep hk hF.stays
    have he2 := he.keep hk hF.stays
    have hf2 := hf.keep hk hF.stays
    have hb2 := hb.keep hk hF.stays
    have ho2 := ho.keep hk hF.stays
    have hF2 := hF.keep hk
    have hsz2 : w.heap.size ≤ w2.heap.size := hk.size
    clear hX1' hk1 hk2
    refine auj ?_
    refine rn_seq ?_
    refine rn_plain ?_
    refine auj ?_
    refine rn_seq ?_
    have hel := eI_len vs op e
    have hfl := fI_len vs op f
    obtain ⟨E, hEdef⟩ : ∃ E, eI vs op e = E := ⟨_, rfl⟩
    rw [hEdef] at hel
    refine rn_with (fun σ' w' => ∃ rv, RowI tRI w' w2.heap.size rv E ∧ Keep [] w2 w' ∧ Sub [(2, .int .i64 (i0 : Nat)), (3, .pointer (some ⟨x1, 0, none⟩)), (4, .pointer (some ⟨x2, 0, none⟩)), (7, rv)] σ') ?_ ?_
    rotate_left
    · intro fin
      refine au ?_
      refine pl_val _ rfl rfl (val_load1 hT rfl rfl rfl (hX2.cell rfl)) ?_
      refine pl_op rfl rfl (opTo_call (fst := []) (cap := []) rfl rfl rfl rfl (by decide +kernel) ((needed_ret op 101 w2).mono ?_))
      rintro r w3 ⟨rfl, hww⟩
      rw [hww, (needC_all op).1]
      obtain ⟨qe, hqe⟩ : ∃ q, q = needE op := ⟨_, rfl⟩
      rw [← hqe]
      unfold eI at hEdef
      rw [← hqe] at hEdef
      cases qe with
      | false =>
        refine auj ?_
        have hE0 : E = [] := by rw [← hEdef]; rfl
        exact fin _ _ ⟨_, by rw [hE0]; exact RowI.nil _ _ _, Keep.refl _ _, rfl, rfl, rfl, rfl, trivial⟩
      | true =>
        refine auj ?_
        refine rn_plain ?_
        refine pl_val (.agg #[.slice av vs.length capv, .slice ab bd.length capb]) rfl rfl (val_load [.slice av vs.length capv, .slice ab bd.length capb] hT rfl rfl rfl (hX1.range (by rfl))) ?_
        refine au ?_
        refine pl_val (.agg #[e0, e1, e2, e3]) rfl rfl (val_load [e0, e1, e2, e3] hT rfl rfl rfl (hX2.range rfl)) ?_
        refine pl_op rfl rfl (opTo_call (fst := []) (cap := []) rfl rfl rfl rfl (by decide +kernel) ((exprCode_ret hs (szE e + 1) e (by omega) (by omega) (hp4 hqe.symm) hq2 he2 hF2).mono ?_))
        rintro r w4 ⟨hrow4, hk4⟩
        refine auj ?_
        have hE1 : E = insE vs e := by rw [← hEdef]; rfl
        exact fin _ _ ⟨r, by rw [hE1]; exact hrow4, hk4, rfl, rfl, rfl, rfl, trivial⟩
    rintro σ' w4 ⟨rv, hrow, hk4, hsub⟩
    refine rn_sub hsub ?_
    clear hsub
    refine au ?_
    refine pl_val (.agg #[.slice av vs.length capv, .slice ab bd.length capb]) rfl rfl (val_load [.slice av vs.length capv, .slice ab bd.length capb] hT rfl rfl rfl ((hk4.blk hX1 (by simp)).range (by rfl))) ?_
    refine au ?_
    refine pl_val _ rfl rfl (val_load1 hT rfl rfl rfl ((hk4.blk hX2 (by simp)).cell rfl)) ?_
    refine pl_op rfl rfl (opTo_call (fst := []) (cap := []) rfl rfl rfl rfl (by decide +kernel) ((refCell_ret (hq2.keep hk4 hF2.stays) (hF2.keep hk4) hs v).mono ?_))
    rintro r w6 ⟨rfl, hk6⟩
    replace hrow := hrow.keep0 hk6
    have hk2c := hk4.tr hk6
    have hX16 := hk2c.blk hX1 (by simp)
    have hX26 := hk2c.blk hX2 (by simp)
    clear hk4 hk6
    refine au ?_
    refine pl_val _ rfl rfl (val_load1 hT rfl rfl rfl (hX26.cell rfl)) ?_
    refine au ?_
    by_cases h1 : op = 1
    · subst h1
      refine ye ?_
      refine au ?_
      refine pl_val _ rfl rfl (val_build _ rfl rfl (built_ri1 9 (cellOf vs v)) w6) ?_
      refine pl_op rfl rfl (opTo_sliceN tRI (iC (9, cellOf vs v, 0, 0)) rfl rfl (slice_ri (9, cellOf vs v, 0, 0)) ?_)
      intro wa ga hga hsa hka hba
      have hra := hrow.keep0 hka
      have hk2a := hk2c.tr hka
      refine pl_op rfl rfl (opTo_rowApp E [(9, cellOf vs v, 0, 0)] rfl rfl rfl app_ri hra (ins_one hba) (by simp; omega) hk2a.size ?_)
      intro vb wb hrowb hkb
      have hk2b := row_keep hra hk2a hkb
      refine au ?_
      refine rn_ret Try.func38 (.inl ⟨_, rfl, rfl⟩) ⟨?_, hk.tr hk2b⟩
      simpa [insS, lastI, fI, needF, hEdef] using hrowb.lower hsz2
    refine nay ?_
    refine au ?_
    by_cases h2 : op = 2
    · subst h2
      obtain ⟨hv0, hvl⟩ := hp3 rfl
      obtain ⟨k, rfl⟩ : ∃ k : Nat, v = (k : Nat) := ⟨v.toNat, by omega⟩
      simp only [Int.toNat_natCast] at hvl
      have hxv : vs[k]? = some vs[k] := List.getElem?_eq_getElem hvl
      have hq2' := hq2
      obtain ⟨vv, bv, hpe, hv, _⟩ := hq2'
      cases hpe
      obtain ⟨vb, vq, vc, hvv, hFv, hrv⟩ := hv.at hxv
      cases hvv
      have hsv : sizeV vs ((k : Nat) : Int) = vs[k].2 := by
        unfold sizeV
        rw [Int.toNat_natCast, List.getD_eq_getElem?_getD, hxv]
        rfl
      refine ye ?_
      refine au ?_
      refine pl_val (.agg #[.slice (some ⟨vb, vq, none⟩) vs.length capv, .slice ab bd.length capb]) rfl rfl (val_load [.slice (some ⟨vb, vq, none⟩) vs.length capv, .slice ab bd.length capb] hT rfl rfl rfl (hX16.range (by rfl))) ?_
      refine au ?_
      refine pl_val (.agg #[f0, f1, f2, f3]) rfl rfl (val_load [f0, f1, f2, f3] hT rfl rfl rfl (hX26.range rfl)) ?_
      refine pl_op rfl rfl (opTo_call (fst := []) (cap := []) rfl rfl rfl rfl (by decide +kernel) ((exprCode_ret hs (szE f + 1) f (by omega) (by omega) (hp5 rfl) (hq2.keep hk2c hF2.stays) (hf2.keep hk2c hF2.stays) (hF2.keep hk2c)).mono ?_))
      rintro r w7 ⟨hrow7, hk7⟩
      have hl7 := insE_len vs f
      have hrw7 := hrow.keep0 hk7
      have hk27 := hk2c.tr hk7
      refine pl_op rfl rfl (opTo_rowApp E (insE vs f) rfl rfl rfl app_ri hrw7 hrow7.ins (by omega) hk27.size ?_)
      intro v8 w8 hrow8 hk8
      have hk28 := row_keep hrw7 hk27 hk8
      have hX18 := hk28.blk hX1 (by simp)
      have hX28 := hk28.blk hX2 (by simp)
      clear hrow hk2c hX16 hX26
      have hrow := hrow8
      have hk2c := hk28
      refine au ?_
      refine pl_val _ rfl rfl (val_load1 hT rfl rfl rfl (hX18.cell rfl)) ?_
      refine au ?_
      refine pl_val _ rfl rfl (val_load1 hT rfl rfl rfl (hX28.cell rfl)) ?_
      refine pl_val _ rfl rfl (val_index k hT rfl rfl rfl rfl rfl hvl w8) ?_
      refine au ?_
      refine pl_val _ rfl rfl (val_load1 hT rfl rfl rfl ((range_keep hrv hk28 (hF2 _ hFv) (by simp)) 1 (.int .i64 vs[k].2) rfl)) ?_
      refine pl_val _ rfl rfl (val_build _ rfl rfl (built_ri2 10 (cellOf vs ((k : Nat) : Int)) vs[k].2) w8) ?_
      refine pl_op rfl rfl (opTo_sliceN tRI (iC (10, cellOf vs ((k : Nat) : Int), vs[k].2, 0)) rfl rfl (slice_ri (10, cellOf vs ((k : Nat) : Int), vs[k].2, 0)) ?_)
      intro wa ga hga hsa hka hba
      have hra := hrow.keep0 hka
      have hk2a := hk2c.tr hka
      refine pl_op rfl rfl (opTo_rowApp (E ++ insE vs f) [(10, cellOf vs ((k : Nat) : Int), vs[k].2, 0)] rfl rfl rfl app_ri hra (ins_one hba) (by simp; omega) hk2a.size ?_)
      intro vb wb hrowb hkb
      have hk2b := row_keep hra hk2a hkb
      refine au ?_
      refine rn_ret Try.func38 (.inl ⟨_, rfl, rfl⟩) ⟨?_, hk.tr hk2b⟩
      simpa [insS, lastI, fI, needF, hEdef, hsv] using hrowb.lower hsz2
    refine nay ?_
    refine au ?_
    by_cases h3 : op = 3
    · subst h3
      refine ye ?_
      refine au ?_
      refine pl_val _ rfl rfl (val_build _ rfl rfl (built_ri0 11) w6) ?_
      refine pl_op rfl rfl (opTo_sliceN tRI (iC (11, 0, 0, 0)) rfl rfl (slice_ri (11, 0, 0, 0)) ?_)
      intro wa ga hga hsa hka hba
      have hra := hrow.keep0 hka
      have hk2a := hk2c.tr hka
      refine pl_op rfl rfl (opTo_rowApp E [(11, 0, 0, 0)] rfl rfl rfl app_ri hra (ins_one hba) (by simp; omega) hk2a.size ?_)
      intro vb wb hrowb hkb
      have hk2b := row_keep hra hk2a hkb
      refine au ?_
      refine rn_ret Try.func38 (.inl ⟨_, rfl, rfl⟩) ⟨?_, hk.tr hk2b⟩
      simpa [insS, lastI, fI, needF, hEdef] using hrowb.lower hsz2
    refine nay ?_
    refine au ?_
    by_cases h4 : op = 4
    · subst h4
      refine ye ?_
      refine au ?_
      refine pl_val _ rfl rfl (val_build _ rfl rfl (built_ri1 12 (cellOf vs v)) w6) ?_
      refine pl_op rfl rfl (opTo_sliceN tRI (iC (12, cellOf vs v, 0, 0)) rfl rfl (slice_ri (12, cellOf vs v, 0, 0)) ?_)
      intro wa ga hga hsa hka hba
      have hra := hrow.keep0 hka
      have hk2a := hk2c.tr hka
      refine pl_op rfl rfl (opTo_rowApp E [(12, cellOf vs v, 0, 0)] rfl rfl rfl app_ri hra (ins_one hba) (by simp; omega) hk2a.size ?_)
      intro vb wb hrowb hkb
      have hk2b := row_keep hra hk2a hkb
      refine au ?_
      refine rn_ret Try.func38 (.inl ⟨_, rfl, rfl⟩) ⟨?_, hk.tr hk2b⟩
      simpa [insS, lastI, fI, needF, hEdef] using hrowb.lower hsz2
    refine nay ?_
    refine au ?_
    by_cases h7 : op = 7
    · subst h7
      refine ye ?_
      refine au ?_
      refine pl_val _ rfl rfl (val_build _ rfl rfl (built_ri0 15) w6) ?_
      refine pl_op rfl rfl (opTo_sliceN tRI (iC (15, 0, 0, 0)) rfl rfl (slice_ri (15, 0, 0, 0)) ?_)
      intro wa ga hga hsa hka hba
      have hra := hrow.keep0 hka
      have hk2a := hk2c.tr hka
      refine pl_op rfl rfl (opTo_rowApp E [(15, 0, 0, 0)] rfl rfl rfl app_ri hra (ins_one hba) (by simp; omega) hk2a.size ?_)
      intro vb wb hrowb hkb
      have hk2b := row_keep hra hk2a hkb
      refine au ?_
      refine rn_ret Try.func38 (.inl ⟨_, rfl, rfl⟩) ⟨?_, hk.tr hk2b⟩
      simpa [insS, lastI, fI, needF, hEdef] using hrowb.lower hsz2
    refine nay ?_
    refine au ?_
    obtain ⟨ra, rc, rfl⟩ := hrow.form
    refine pl_val (.agg #[.slice av vs.length capv, .slice ab bd.length capb]) rfl rfl (val_load [.slice av vs.length capv, .slice ab bd.length capb] hT rfl rfl rfl (hX16.range (by rfl))) ?_
    refine au ?_
    refine pl_val _ rfl rfl (val_load1 hT rfl rfl rfl (hX26.cell rfl)) ?_
    refine au ?_
    refine pl_num (((i0 + E.length : Nat) : Int)) rfl rfl rfl rfl rfl (by simp only [ariP]; omega) ?_
    refine pl_num (((i0 + E.length + 1 : Nat) : Int)) rfl rfl rfl rfl rfl (by simp only [ariP]; omega) ?_
    refine pl_op rfl rfl (opTo_call (fst := []) (cap := []) rfl rfl rfl rfl (by decide +kernel) ((listCode_ret ihs lb (by omega) (by omega) hp6 (hq2.keep hk2c hF2.stays) (hb2.keep hk2c hF2.stays) (hF2.keep hk2c) (by omega)).mono ?_))
    rintro r w7 ⟨hrowX, hk7⟩
    have hXl := insSs_len vs lb (i0 + E.length + 1)
    obtain ⟨X, hXd⟩ : ∃ X, insSs vs lb (i0 + E.length + 1) = X := ⟨_, rfl⟩
    rw [hXd] at hrowX hXl
    obtain ⟨xa, xc, rfl⟩ := hrowX.form
    have hrow7 := hrow.keep0 hk7
    have hk27 := hk2c.tr hk7
    refine au ?_
    refine pl_num (((i0 + E.length : Nat) : Int)) rfl rfl rfl rfl rfl (by simp only [ariP]; omega) ?_
    refine pl_num (((i0 + E.length + 1 : Nat) : Int)) rfl rfl rfl rfl rfl (by simp only [ariP]; omega) ?_
    refine au ?_
    refine pl_num (((i0 + E.length + 1 + X.length : Nat) : Int)) rfl rfl rfl rfl rfl (by simp only [ariP]; omega) ?_
    refine pl_num (((i0 + E.length + 1 + X.length + 1 : Nat) : Int)) rfl rfl rfl rfl rfl (by simp only [ariP]; omega) ?_
    refine au ?_
    obtain ⟨Z, hZ⟩ : ∃ Z : Is, Z = (13, ((i0 + E.length + 1 + X.length + 1 : Nat) : Int), 0, 0) := ⟨_, rfl⟩
    refine pl_val (.agg (iC Z).toArray) rfl rfl (by rw [hZ]; exact val_build _ rfl rfl (built_ri1 13 _) w7) ?_
    refine pl_op rfl rfl (opTo_sliceN tRI (iC Z) rfl rfl (slice_ri Z) ?_)
    intro w8 g8 hg8 hs8 hk8 hb8
    have hrow8 := hrow7.keep0 hk8
    have hrowX8 := hrowX.keep0 hk8
    have hk28 := hk27.tr hk8
    have hin : ∀ k ∈ (Value.slice ra E.length rc).ownBlock.toList, k < w6.heap.size := fun k hm => (hrow.own k hm).2
    refine pl_op rfl rfl (opTo_rowApp E [Z] rfl rfl rfl app_ri hrow8 (ins_one hb8) (by simp; omega) hk28.size ?_)
    intro v9 w9 hrow9 hk9
    have hk29 := row_keep hrow8 hk28 hk9
    have hrowX9 := hrowX8.keep hk9 hin
    refine au ?_
    refine pl_op rfl rfl (opTo_rowApp (E ++ [Z]) X rfl rfl rfl app_ri hrow9 hrowX9.ins (by simp; omega) hk29.size ?_)
    intro v10 w10 hrow10 hk10
    have hk210 := row_keep hrow9 hk29 hk10
    refine au ?_
    refine pl_val _ rfl rfl (val_load1 hT rfl rfl rfl ((hk210.blk hX2 (by simp)).cell rfl)) ?_
    clear hrow hk2c hrow7 hrow8 hrow9
    have hrow := hrow10
    have hk2c := hk210
    by_cases h5 : op = 5
    · subst h5
      refine ye ?_
      refine au ?_
      refine pl_val _ rfl rfl (val_build _ rfl rfl (built_ri1 14 ((i0 : Nat) : Int)) w10) ?_
      refine pl_op rfl rfl (opTo_sliceN tRI (iC (14, ((i0 : Nat) : Int), 0, 0)) rfl rfl (slice_ri (14, ((i0 : Nat) : Int), 0, 0)) ?_)
      intro wa ga hga hsa hka hba
      have hra := hrow.keep0 hka
      have hk2a := hk2c.tr hka
      refine pl_op rfl rfl (opTo_rowApp (E ++ [Z] ++ X) [(14, ((i0 : Nat) : Int), 0, 0)] rfl rfl rfl app_ri hra (ins_one hba) (by simp; omega) hk2a.size ?_)
      intro vb wb hrowb hkb
      have hk2b := row_keep hra hk2a hkb
      refine au ?_
      refine rn_ret Try.func38 (.inl ⟨_, rfl, rfl⟩) ⟨?_, hk.tr hk2b⟩
      have e9 : insS vs (.mk 5 v e f lb lo) i0 = E ++ [Z] ++ X ++ [(14, ((i0 : Nat) : Int), 0, 0)] := by
        rw [insS, if_pos rfl, hEdef, hXd, hZ]
        simp [whileI]
      rw [e9]
      exact hrowb.lower hsz2
    have h6 : op = 6 := by omega
    subst h6
    refine nay ?_
    refine au ?_
    refine pl_val (.agg #[.slice av vs.length capv, .slice ab bd.length capb]) rfl rfl (val_load [.slice av vs.length capv, .slice ab bd.length capb] hT rfl rfl rfl ((hk210.blk hX1 (by simp)).range (by rfl))) ?_
    refine au ?_
    refine pl_val _ rfl rfl (val_load1 hT rfl rfl rfl ((hk210.blk hX2 (by simp)).cell rfl)) ?_
    refine au ?_
    refine pl_op rfl rfl (opTo_call (fst := []) (cap := []) rfl rfl rfl rfl (by decide +kernel) ((listCode_ret ihs lo (by omega) (by omega) hp7 (hq2.keep hk210 hF2.stays) (ho2.keep hk210 hF2.stays) (hF2.keep hk210) (by omega)).mono ?_))
    rintro r w11 ⟨hrowY, hk11⟩
    have hYl := insSs_len vs lo (i0 + E.length + 1 + X.length + 1)
    obtain ⟨Y, hY⟩ : ∃ Y, insSs vs lo (i0 + E.length + 1 + X.length + 1) = Y := ⟨_, rfl⟩
    rw [hY] at hrowY hYl
    obtain ⟨ya, yc, rfl⟩ := hrowY.form
    have hrow11 := hrow10.keep0 hk11
    have hk211 := hk210.tr hk11
    refine au ?_
    refine pl_num (((i0 + E.length + 1 + X.length + 1 + Y.length : Nat) : Int)) rfl rfl rfl rfl rfl (by simp only [ariP]; omega) ?_
    obtain ⟨J, hJ⟩ : ∃ J : Is, J = (14, ((i0 + E.length + 1 + X.length + 1 + Y.length : Nat) : Int), 0, 0) := ⟨_, rfl⟩
    refine pl_val (.agg (iC J).toArray) rfl rfl (by rw [hJ]; exact val_build _ rfl rfl (built_ri1 14 _) w11) ?_
    refine pl_op rfl rfl (opTo_sliceN tRI (iC J) rfl rfl (slice_ri J) ?_)
    intro w12 g12 hg12 hs12 hk12 hb12
    have hrow12 := hrow11.keep0 hk12
    have hrowY12 := hrowY.keep0 hk12
    have hk212 := hk211.tr hk12
    have hin2 : ∀ k ∈ v10.ownBlock.toList, k < w10.heap.size := fun k hm => (hrow10.own k hm).2
    refine pl_op rfl rfl (opTo_rowApp (E ++ [Z] ++ X) [J] rfl rfl rfl app_ri hrow12 (ins_one hb12) (by simp; omega) hk212.size ?_)
    intro v13 w13 hrow13 hk13
    have hk213 := row_keep hrow12 hk212 hk13
    have hrowY13 := hrowY12.keep hk13 hin2
    refine au ?_
    refine pl_op rfl rfl (opTo_rowApp (E ++ [Z] ++ X ++ [J]) Y rfl rfl rfl app_ri hrow13 hrowY13.ins (by simp; omega) hk213.size ?_)
    intro v14 w14 hrow14 hk14
    have hk214 := row_keep hrow13 hk213 hk14
    refine au ?_
    refine rn_ret Try.func38 (.inl ⟨_, rfl, rfl⟩) ⟨?_, hk.tr hk214⟩
    have e9 : insS vs (.mk 6 v e f lb lo) i0 = E ++ [Z] ++ X ++ [J] ++ Y := by
      rw [insS, if_neg (by decide), if_pos rfl, hEdef, hXd, hY, hZ, hJ]
      simp [ifI]
    rw [e9]
    exact hrow14.lower hsz2

theorem codeOf_ret {F : Nat → Prop} {w : World} {x : Value} {vs : List VarT} {body : List ST} (h : ProgV F w x vs body) (hF : In F w) (hs : Sized vs) (hgd : gdSs vs.length body) (hsz : szSs body ≤ 100000) :
    Ret Try.prog 12 [x] w fun r w' => RowI tRI w' w.heap.size r (insP vs body) ∧ Keep [] w w' := by
  have hp := h
  obtain ⟨vv, bv, rfl, hv, hb⟩ := h
  obtain ⟨av, capv, rfl⟩ := hv.form
  obtain ⟨ab, capb, rfl⟩ := hb.form
  refine ret_of 12 Try.func12 rfl rfl (by simp) ?_
  refine au ?_
  refine pl_op rfl rfl (opTo_boxN [.slice av vs.length capv, .slice ab body.length capb] rfl rfl rfl ?_)
  intro w2 x1 hx1 hs1 hk hX1
  refine au ?_
  refine pl_val (.agg #[.slice av vs.length capv, .slice ab body.length capb]) rfl rfl (val_load [.slice av vs.length capv, .slice ab body.length capb] hT rfl rfl rfl (hX1.range (by rfl))) ?_
  refine au ?_
  refine pl_val _ rfl rfl (val_load1 hT rfl rfl rfl (hX1.cell rfl)) ?_
  refine pl_op rfl rfl (opTo_call (fst := []) (cap := []) rfl rfl rfl rfl (by decide +kernel) ((listCode_ret (i0 := 0) (stmtCode_ret hs (szSs body + 1)) body (by omega) hsz hgd (hp.keep hk hF.stays) (hb.keep hk hF.stays) (hF.keep hk) (by omega)).mono ?_))
  rintro r w6 ⟨hrow, hk2c⟩
  have hl := insSs_len vs body 0
  refine au ?_
  refine pl_val _ rfl rfl (val_build _ rfl rfl (built_ri0 16) w6) ?_
  refine pl_op rfl rfl (opTo_sliceN tRI (iC haltI) rfl rfl (slice_ri haltI) ?_)
  intro wa ga hga hsa hka hba
  have hra := hrow.keep0 hka
  have hk2a := hk2c.tr hka
  refine pl_op rfl rfl (opTo_rowApp (insSs vs body 0) [haltI] rfl rfl rfl app_ri hra (ins_one hba) (by simp; omega) hk2a.size ?_)
  intro vb wb hrowb hkb
  have hk2b := row_keep hra hk2a hkb
  refine au ?_
  exact rn_ret Try.func12 (.inl ⟨_, rfl, rfl⟩) ⟨hrowb.lower hk.size, hk.tr hk2b⟩
end E
end Go.Proofs.Ytcgigfnbjmlhhad

/- Trees whose rows lie each in a block of its own: which block it is stands beside each row; how often a block is a row's. -/
namespace Go.Proofs.Ytcgigfnbjmlhhad
set_option maxRecDepth 20000
set_option maxHeartbeats 4000000
namespace E

inductive AE where
  | mk (op v n : Int) (g : Nat) (l : List AE)
inductive AS where
  | mk (op v : Int) (e f : AE) (gb : Nat) (b : List AS) (go : Nat) (o : List AS)

mutual
def erE : AE → ET
  | .mk op v n _ l => .mk op v n (erEs l)
def erEs : List AE → List ET
  | [] => []
  | t :: r => erE t :: erEs r
end
mutual
def erS : AS → ST
  | .mk op v e f _ b _ o => .mk op v (erE e) (erE f) (erSs b) (erSs o)
def erSs : List AS → List ST
  | [] => []
  | t :: r => erS t :: erSs r
end
theorem erEs_map : ∀ l, erEs l = l.map erE
  | [] => rfl
  | t :: r => by simp [erEs, erEs_map r]
theorem erSs_map : ∀ l, erSs l = l.map erS
  | [] => rfl
  | t :: r => by simp [erSs, erSs_map r]
theorem erEs_length (l : List AE) : (erEs l).length = l.length := by simp [erEs_map]
theorem erSs_length (l : List AS) : (erSs l).length = l.length := by simp [erSs_map]

/-- A row in block g, from its head on. -/
def ARow (w : World) (k g : Nat) (a : Option Addr) (len : Nat) (cc : Nat → List Value) : Prop :=
  0 < len → a = some ⟨g, 0, none⟩ ∧ (∃ L e, Blk w g L e) ∧ ∀ i, i < len → w.rangeAt g (0 + i * k) (cc i)

inductive AExprV (w : World) : List Value → AE → Prop
  | mk {op v n : Int} {g : Nat} {l : List AE} {a : Option Addr} {cap : Nat} (cc : Nat → List Value) (hr : ARow w 4 g a l.length cc) (hc : ∀ i (h : i < l.length), AExprV w (cc i) (l[i]'h)) :
      AExprV w [.int .i64 op, .int .i64 v, .int .i64 n, .slice a l.length cap] (.mk op v n g l)
inductive AStmtV (w : World) : List Value → AS → Prop
  | mk {op v : Int} {e f : AE} {ce cf : List Value} {gb go : Nat} {b o : List AS} {ab ao : Option Addr} {capb capo : Nat} (cb co : Nat → List Value) (he : AExprV w ce e) (hf : AExprV w cf f)
      (hb : ARow w 12 gb ab b.length cb) (hcb : ∀ i (h : i < b.length), AStmtV w (cb i) (b[i]'h))
      (ho : ARow w 12 go ao o.length co) (hco : ∀ i (h : i < o.length), AStmtV w (co i) (o[i]'h)) :
      AStmtV w ([.int .i64 op, .int .i64 v] ++ ce ++ cf ++ [.slice ab b.length capb, .slice ao o.length capo]) (.mk op v e f gb b go o)
def AExprsV (w : World) (x : Value) (g : Nat) (l : List AE) : Prop :=
  ∃ a cap cc, x = .slice a l.length cap ∧ ARow w 4 g a l.length cc ∧ ∀ i (h : i < l.length), AExprV w (cc i) (l[i]'h)
def AStmtsV (w : World) (x : Value) (g : Nat) (l : List AS) : Prop :=
  ∃ a cap cc, x = .slice a l.length cap ∧ ARow w 12 g a l.length cc ∧ ∀ i (h : i < l.length), AStmtV w (cc i) (l[i]'h)

section
variable {w w' : World} {cs : List Value}
theorem ARow.keep {k g : Nat} {a : Option Addr} {len : Nat} {cc : Nat → List Value} (h : ARow w k g a len cc) (hk : Keep [] w w') : ARow w' k g a len cc := fun h0 => by
  obtain ⟨ha, ⟨L, e, hb⟩, hr⟩ := h h0
  exact ⟨ha, ⟨L, e, hk.blk hb (by simp)⟩, fun i hi => range_keep (hr i hi) hk hb.lt (by simp)⟩
theorem ARow.row {k g : Nat} {a : Option Addr} {len : Nat} {cc : Nat → List Value} (h : ARow w k g a len cc) : RowAt (fun b => b < w.heap.size) w k a len cc := fun h0 => by
  obtain ⟨ha, ⟨L, e, hb⟩, hr⟩ := h h0
  exact ⟨g, 0, ha, hb.lt, hr⟩
theorem AExprV.keep {t : AE} (h : AExprV w cs t) (hk : Keep [] w w') : AExprV w' cs t := by
  induction h with
  | mk cc hr _ ih => exact .mk cc (hr.keep hk) ih
theorem AStmtV.keep {t : AS} (h : AStmtV w cs t) (hk : Keep [] w w') : AStmtV w' cs t := by
  induction h with
  | mk cb co he hf hb _ ho _ ihb iho => exact .mk cb co (he.keep hk) (hf.keep hk) (hb.keep hk) ihb (ho.keep hk) iho
theorem AExprsV.keep {x : Value} {g : Nat} {l : List AE} (h : AExprsV w x g l) (hk : Keep [] w w') : AExprsV w' x g l := by
  obtain ⟨a, cap, cc, hx, hr, hc⟩ := h
  exact ⟨a, cap, cc, hx, hr.keep hk, fun i hi => (hc i hi).keep hk⟩
theorem AStmtsV.keep {x : Value} {g : Nat} {l : List AS} (h : AStmtsV w x g l) (hk : Keep [] w w') : AStmtsV w' x g l := by
  obtain ⟨a, cap, cc, hx, hr, hc⟩ := h
  exact ⟨a, cap, cc, hx, hr.keep hk, fun i hi => (hc i hi).keep hk⟩
theorem AExprV.plain {t : AE} (h : AExprV w cs t) : ExprV (fun b => b < w.heap.size) w cs (erE t) := by
  induction h with
  | @mk op v n g l a cap cc hr _ ih =>
    have e : l.length = (erEs l).length := (erEs_length l).symm
    simp only [erE]
    rw [e]
    refine .mk cc (by rw [← e]; exact hr.row) fun i hi => ?_
    have hi' : i < l.length := by omega
    have : (erEs l)[i] = erE l[i] := by simp [erEs_map]
    rw [this]
    exact ih i hi'
theorem AStmtV.plain {t : AS} (h : AStmtV w cs t) : StmtV (fun b => b < w.heap.size) w cs (erS t) := by
  induction h with
  | @mk op v e f ce cf gb go b o ab ao capb capo cb co he hf hb _ ho _ ihb iho =>
    have e1 : b.length = (erSs b).length := (erSs_length b).symm
    have e2 : o.length = (erSs o).length := (erSs_length o).symm
    simp only [erS]
    rw [e1, e2]
    refine .mk cb co he.plain hf.plain (by rw [← e1]; exact hb.row) (fun i hi => ?_) (by rw [← e2]; exact ho.row) (fun i hi => ?_)
    · have hi' : i < b.length := by omega
      have : (erSs b)[i] = erS b[i] := by simp [erSs_map]
      rw [this]
      exact ihb i hi'
    · have hi' : i < o.length := by omega
      have : (erSs o)[i] = erS o[i] := by simp [erSs_map]
      rw [this]
      exact iho i hi'
theorem AStmtsV.plain {x : Value} {g : Nat} {l : List AS} (h : AStmtsV w x g l) : StmtsV (fun b => b < w.heap.size) w x (erSs l) := by
  obtain ⟨a, cap, cc, rfl, hr, hc⟩ := h
  refine ⟨a, cap, cc, by rw [erSs_length], by rw [erSs_length]; exact hr.row, fun i hi => ?_⟩
  have hi' : i < l.length := by rw [erSs_length] at hi; exact hi
  have : (erSs l)[i] = erS l[i] := by simp [erSs_map]
  rw [this]
  exact (hc i hi').plain
theorem AExprsV.form {x : Value} {g : Nat} {l : List AE} (h : AExprsV w x g l) : ∃ a cap, x = .slice a l.length cap := by
  obtain ⟨a, cap, _, hv, _⟩ := h
  exact ⟨a, cap, hv⟩
theorem AStmtsV.form {x : Value} {g : Nat} {l : List AS} (h : AStmtsV w x g l) : ∃ a cap, x = .slice a l.length cap := by
  obtain ⟨a, cap, _, hv, _⟩ := h
  exact ⟨a, cap, hv⟩
theorem AExprV.inv {op v n : Int} {g : Nat} {l : List AE} (h : AExprV w cs (.mk op v n g l)) : ∃ lv, cs = [.int .i64 op, .int .i64 v, .int .i64 n, lv] ∧ AExprsV w lv g l := by
  cases h with
  | mk cc hr hc => exact ⟨_, rfl, _, _, cc, rfl, hr, hc⟩
theorem AExprV.of {op v n : Int} {g : Nat} {l : List AE} {lv : Value} (h : AExprsV w lv g l) : AExprV w [.int .i64 op, .int .i64 v, .int .i64 n, lv] (.mk op v n g l) := by
  obtain ⟨a, cap, cc, rfl, hr, hc⟩ := h
  exact .mk cc hr hc
theorem AStmtV.inv {op v : Int} {e f : AE} {gb go : Nat} {b o : List AS} (h : AStmtV w cs (.mk op v e f gb b go o)) : ∃ ce cf bv ov, cs = scells op v ce cf bv ov ∧ AExprV w ce e ∧ AExprV w cf f ∧ AStmtsV w bv gb b ∧ AStmtsV w ov go o := by
  cases h with
  | mk cb co he hf hb hcb ho hco => exact ⟨_, _, _, _, rfl, he, hf, ⟨_, _, cb, rfl, hb, hcb⟩, ⟨_, _, co, rfl, ho, hco⟩⟩
theorem AStmtV.of {op v : Int} {e f : AE} {gb go : Nat} {b o : List AS} {ce cf : List Value} {bv ov : Value} (he : AExprV w ce e) (hf : AExprV w cf f) (hb : AStmtsV w bv gb b) (ho : AStmtsV w ov go o) : AStmtV w (scells op v ce cf bv ov) (.mk op v e f gb b go o) := by
  obtain ⟨a, cap, cc, rfl, hr, hc⟩ := hb
  obtain ⟨a', cap', cc', rfl, hr', hc'⟩ := ho
  exact .mk cc cc' he hf hr hc hr' hc'
theorem AStmtsV.at {x : Value} {g : Nat} {l : List AS} (h : AStmtsV w x g l) {i : Nat} {t : AS} (ht : l[i]? = some t) : ∃ cap ci, x = .slice (some ⟨g, 0, none⟩) l.length cap ∧ (∃ L e, Blk w g L e) ∧ w.rangeAt g (0 + i * 12) ci ∧ AStmtV w ci t := by
  obtain ⟨a, cap, cc, hv, hr, hc⟩ := h
  obtain ⟨hlt, e⟩ := List.getElem?_eq_some_iff.1 ht
  obtain ⟨ha, hb, hra⟩ := hr (by omega)
  exact ⟨cap, cc i, by rw [hv, ha], hb, hra i hlt, by rw [← e]; exact hc i hlt⟩
theorem AExprsV.at {x : Value} {g : Nat} {l : List AE} (h : AExprsV w x g l) {i : Nat} {t : AE} (ht : l[i]? = some t) : ∃ cap ci, x = .slice (some ⟨g, 0, none⟩) l.length cap ∧ (∃ L e, Blk w g L e) ∧ w.rangeAt g (0 + i * 4) ci ∧ AExprV w ci t := by
  obtain ⟨a, cap, cc, hv, hr, hc⟩ := h
  obtain ⟨hlt, e⟩ := List.getElem?_eq_some_iff.1 ht
  obtain ⟨ha, hb, hra⟩ := hr (by omega)
  exact ⟨cap, cc i, by rw [hv, ha], hb, hra i hlt, by rw [← e]; exact hc i hlt⟩
theorem AExprV.length {t : AE} (h : AExprV w cs t) : cs.length = 4 := by cases h; rfl
end

/-! ### How often a block is a row's -/
def hit (g b n : Nat) : Nat := if n = 0 then 0 else if g = b then 1 else 0
mutual
def cE (b : Nat) : AE → Nat
  | .mk _ _ _ g l => hit g b l.length + cEs b l
def cEs (b : Nat) : List AE → Nat
  | [] => 0
  | t :: r => cE b t + cEs b r
end
mutual
def sS (b : Nat) : AS → Nat
  | .mk _ _ _ _ gb lb go lo => hit gb b lb.length + hit go b lo.length + sSs b lb + sSs b lo
def sSs (b : Nat) : List AS → Nat
  | [] => 0
  | t :: r => sS b t + sSs b r
end
mutual
def xS (b : Nat) : AS → Nat
  | .mk _ _ e f _ lb _ lo => cE b e + cE b f + xSs b lb + xSs b lo
def xSs (b : Nat) : List AS → Nat
  | [] => 0
  | t :: r => xS b t + xSs b r
end
theorem hit_le (g b n : Nat) : hit g b n ≤ 1 := by unfold hit; split <;> (try split) <;> omega
theorem hit_self {g n : Nat} (h : 0 < n) : hit g g n = 1 := by unfold hit; rw [if_neg (by omega), if_pos rfl]
theorem hit_ne {g b n : Nat} (h : g ≠ b) : hit g b n = 0 := by unfold hit; split <;> simp_all
theorem cEs_append (b : Nat) : ∀ a c, cEs b (a ++ c) = cEs b a + cEs b c
  | [], c => by simp [cEs]
  | t :: r, c => by simp only [List.cons_append, cEs, cEs_append b r c]; omega
theorem sSs_append (b : Nat) : ∀ a c, sSs b (a ++ c) = sSs b a + sSs b c
  | [], c => by simp [sSs]
  | t :: r, c => by simp only [List.cons_append, sSs, sSs_append b r c]; omega
theorem xSs_append (b : Nat) : ∀ a c, xSs b (a ++ c) = xSs b a + xSs b c
  | [], c => by simp [xSs]
  | t :: r, c => by simp only [List.cons_append, xSs, xSs_append b r c]; omega

theorem cEs_at {b : Nat} {l : List AE} (h : cEs b l = 0) : ∀ i (hi : i < l.length), cE b (l[i]'hi) = 0 := by
  induction l with
  | nil => intro i hi; simp at hi
  | cons t r ih =>
    simp only [cEs] at h
    intro i hi
    cases i with
    | zero => simp only [List.getElem_cons_zero]; omega
    | succ i => simp only [List.getElem_cons_succ]; exact ih (by omega) i (by simpa using hi)
theorem sSs_at {b : Nat} {l : List AS} (h : sSs b l = 0) : ∀ i (hi : i < l.length), sS b (l[i]'hi) = 0 := by
  induction l with
  | nil => intro i hi; simp at hi
  | cons t r ih =>
    simp only [sSs] at h
    intro i hi
    cases i with
    | zero => simp only [List.getElem_cons_zero]; omega
    | succ i => simp only [List.getElem_cons_succ]; exact ih (by omega) i (by simpa using hi)
theorem xSs_at {b : Nat} {l : List AS} (h : xSs b l = 0) : ∀ i (hi : i < l.length), xS b (l[i]'hi) = 0 := by
  induction l with
  | nil => intro i hi; simp at hi
  | cons t r ih =>
    simp only [xSs] at h
    intro i hi
    cases i with
    | zero => simp only [List.getElem_cons_zero]; omega
    | succ i => simp only [List.getElem_cons_succ]; exact ih (by omega) i (by simpa using hi)

theorem ARow.keepBut {w w' : World} {k g x : Nat} {a : Option Addr} {len : Nat} {cc : Nat → List Value} (h : ARow w k g a len cc) (hk : Keep [x] w w') (hx : hit g x len = 0) : ARow w' k g a len cc := fun h0 => by
  obtain ⟨ha, ⟨L, e, hb⟩, hr⟩ := h h0
  have hne : g ≠ x := fun e => by subst e; rw [hit_self h0] at hx; omega
  exact ⟨ha, ⟨L, e, hk.blk hb (by simpa using hne)⟩, fun i hi => range_keep (hr i hi) hk hb.lt (by simpa using hne)⟩
theorem AExprV.keepBut {w w' : World} {cs : List Value} {x : Nat} {t : AE} (h : AExprV w cs t) (hk : Keep [x] w w') (hx : cE x t = 0) : AExprV w' cs t := by
  induction h with
  | mk cc hr _ ih =>
    simp only [cE] at hx
    exact .mk cc (hr.keepBut hk (by omega)) fun i hi => ih i hi (cEs_at (by omega) i hi)
theorem AStmtV.keepBut {w w' : World} {cs : List Value} {x : Nat} {t : AS} (h : AStmtV w cs t) (hk : Keep [x] w w') (hs : sS x t = 0) (hx : xS x t = 0) : AStmtV w' cs t := by
  induction h with
  | mk cb co he hf hb _ ho _ ihb iho =>
    simp only [sS, xS] at hs hx
    exact .mk cb co (he.keepBut hk (by omega)) (hf.keepBut hk (by omega)) (hb.keepBut hk (by omega)) (fun i hi => ihb i hi (sSs_at (by omega) i hi) (xSs_at (by omega) i hi)) (ho.keepBut hk (by omega)) (fun i hi => iho i hi (sSs_at (by omega) i hi) (xSs_at (by omega) i hi))
theorem AStmtsV.keepBut {w w' : World} {x : Nat} {v : Value} {g : Nat} {l : List AS} (h : AStmtsV w v g l) (hk : Keep [x] w w') (hh : hit g x l.length = 0) (hs : sSs x l = 0) (hx : xSs x l = 0) : AStmtsV w' v g l := by
  obtain ⟨a, cap, cc, hv, hr, hc⟩ := h
  exact ⟨a, cap, cc, hv, hr.keepBut hk hh, fun i hi => (hc i hi).keepBut hk (sSs_at hs i hi) (xSs_at hx i hi)⟩

/-- Counts that are one at most, and none outside. -/
structure Cnts (f : Nat → Nat) (lo hi : Nat) : Prop where
  one : ∀ b, f b ≤ 1
  out : ∀ b, b < lo ∨ hi ≤ b → f b = 0
theorem Cnts.zero (lo hi : Nat) : Cnts (fun _ => 0) lo hi := ⟨fun _ => by omega, fun _ _ => rfl⟩
theorem Cnts.mono {f : Nat → Nat} {lo hi lo' hi' : Nat} (h : Cnts f lo hi) (h1 : lo' ≤ lo) (h2 : hi ≤ hi') : Cnts f lo' hi' := ⟨h.one, fun b hb => h.out b (by omega)⟩
theorem Cnts.add {f g : Nat → Nat} {lo mid hi : Nat} (hf : Cnts f lo mid) (hg : Cnts g mid hi) (h1 : lo ≤ mid) (h2 : mid ≤ hi) : Cnts (fun b => f b + g b) lo hi :=
  ⟨fun b => by
    have := hf.one b
    have := hg.one b
    rcases Nat.lt_or_ge b mid with h | h
    · have := hg.out b (.inl h); omega
    · have := hf.out b (.inr h); omega,
   fun b hb => by
    have := hf.out b (by omega)
    have := hg.out b (by omega)
    omega⟩
theorem Cnts.congr {f g : Nat → Nat} {lo hi : Nat} (h : Cnts f lo hi) (e : ∀ b, g b = f b) : Cnts g lo hi := ⟨fun b => by rw [e]; exact h.one b, fun b hb => by rw [e]; exact h.out b hb⟩
/-- A row more, in a block that none is in. -/
theorem Cnts.row {f : Nat → Nat} {lo hi g n : Nat} (h : Cnts f lo hi) (hg : f g = 0) (h1 : lo ≤ g) (h2 : g < hi) : Cnts (fun b => hit g b n + f b) lo hi :=
  ⟨fun b => by
    have := h.one b
    have := hit_le g b n
    by_cases e : g = b
    · subst e; omega
    · have := hit_ne (n := n) e; omega,
   fun b hb => by
    have := h.out b hb
    have := hit_ne (n := n) (show g ≠ b by omega)
    omega⟩
end E
end Go.Proofs.Ytcgigfnbjmlhhad

/- Rows of such trees that are being made by append. -/
namespace Go.Proofs.Ytcgigfnbjmlhhad
set_option maxRecDepth 20000
set_option maxHeartbeats 4000000
namespace E

def appOr (v : Value) (ln m g : Nat) (w w' : World) : Prop := (v.ownBlock = some g ∧ ln + m ≤ capOf v ∧ Keep [g] w w') ∨ (g = w.heap.size ∧ Keep [] w w' ∧ w'.heap.size = w.heap.size + 1)

structure GrowE (te : Nat) (w : World) (B : Nat) (rv : Value) (ccs : List (List Value)) (ts : List AE) : Prop where
  own : Own w B te 4 rv ccs.length ccs.flatten
  len : ccs.length = ts.length
  els : ∀ j (hj : j < ts.length), AExprV w (ccs.getD j []) (ts[j]'hj)
  cnt : Cnts (fun b => cEs b ts) B w.heap.size
  apart : ∀ g, rv.ownBlock = some g → cEs g ts = 0
structure GrowS (te : Nat) (w : World) (B : Nat) (rv : Value) (ccs : List (List Value)) (ts : List AS) : Prop where
  own : Own w B te 12 rv ccs.length ccs.flatten
  len : ccs.length = ts.length
  els : ∀ j (hj : j < ts.length), AStmtV w (ccs.getD j []) (ts[j]'hj)
  cntS : Cnts (fun b => sSs b ts) B w.heap.size
  cntX : Cnts (fun b => xSs b ts) B w.heap.size
  apart : ∀ g, rv.ownBlock = some g → sSs g ts = 0 ∧ xSs g ts = 0

theorem AStmtV.length {w : World} {cs : List Value} {t : AS} (h : AStmtV w cs t) : cs.length = 12 := by
  cases h with
  | mk cb co he hf => simp [he.length, hf.length]

theorem GrowE.nil (te : Nat) (w : World) (B : Nat) : GrowE te w B (.slice none 0 0) [] [] :=
  ⟨Own.nil _ _ _ _, rfl, fun j hj => by simp at hj, (Cnts.zero _ _).congr fun b => by simp [cEs], fun g h => by cases h⟩
theorem GrowS.nil (te : Nat) (w : World) (B : Nat) : GrowS te w B (.slice none 0 0) [] [] :=
  ⟨Own.nil _ _ _ _, rfl, fun j hj => by simp at hj, (Cnts.zero _ _).congr fun b => by simp [sSs], (Cnts.zero _ _).congr fun b => by simp [xSs], fun g h => by cases h⟩

section
variable {te : Nat} {w w' : World} {B : Nat} {rv : Value} {ccs : List (List Value)}
theorem GrowE.keep {ts : List AE} (h : GrowE te w B rv ccs ts) (hk : Keep [] w w') : GrowE te w' B rv ccs ts :=
  ⟨h.own.keep hk (by simp), h.len, fun j hj => (h.els j hj).keep hk, h.cnt.mono (Nat.le_refl _) hk.size, h.apart⟩
theorem GrowS.keep {ts : List AS} (h : GrowS te w B rv ccs ts) (hk : Keep [] w w') : GrowS te w' B rv ccs ts :=
  ⟨h.own.keep hk (by simp), h.len, fun j hj => (h.els j hj).keep hk, h.cntS.mono (Nat.le_refl _) hk.size, h.cntX.mono (Nat.le_refl _) hk.size, h.apart⟩
/-- A block of another kind turns. -/
theorem GrowE.other {ts : List AE} {x : Nat} (h : GrowE te w B rv ccs ts) (hk : Keep [x] w w') (hx : x < B) : GrowE te w' B rv ccs ts :=
  ⟨h.own.keep hk (fun k hk => by have := (h.own.lt k hk).1; simp; omega), h.len, fun j hj => (h.els j hj).keepBut hk (cEs_at (h.cnt.out x (.inl hx)) j hj), h.cnt.mono (Nat.le_refl _) hk.size, h.apart⟩

theorem getD_snoc {ccs : List (List Value)} {c : List Value} (j : Nat) (hj : j < ccs.length + 1) : (ccs ++ [c]).getD j [] = if j = ccs.length then c else ccs.getD j [] := by
  split
  · rename_i h
    subst h
    simp [List.getD_eq_getElem?_getD]
  · rw [List.getD_eq_getElem?_getD, List.getD_eq_getElem?_getD, List.getElem?_append_left (by omega)]

theorem GrowE.app {ts : List AE} {w1 : World} {cs : List Value} {t : AE} {g cap : Nat} (h : GrowE te w B rv ccs ts) (ht : AExprV w1 cs t) (hc : Cnts (fun b => cE b t) w.heap.size w1.heap.size) (hk : Keep [] w w1) (hB : B ≤ w.heap.size)
    (ho : Own w' B te 4 (.slice (some ⟨g, 0, none⟩) (ccs.length + 1) cap) (ccs.length + 1) (ccs.flatten ++ cs)) (hor : appOr rv ccs.length 1 g w1 w') : GrowE te w' B (.slice (some ⟨g, 0, none⟩) (ccs.length + 1) cap) (ccs ++ [cs]) (ts ++ [t]) := by
  have h1 := h.keep hk
  have hsz : w1.heap.size ≤ w'.heap.size := by rcases hor with ⟨_, _, h⟩ | ⟨_, h, _⟩ <;> exact h.size
  have hgB : B ≤ g ∧ g < w'.heap.size := ho.lt g rfl
  have hg0 : cEs g ts = 0 ∧ cE g t = 0 := by
    rcases hor with ⟨h2, _, _⟩ | ⟨h2, _, _⟩
    · exact ⟨h.apart g h2, hc.out g (.inl (h.own.lt g h2).2)⟩
    · exact ⟨h1.cnt.out g (.inr (by omega)), hc.out g (.inr (by omega))⟩
  have hels : ∀ j (hj : j < ts.length), AExprV w' (ccs.getD j []) (ts[j]'hj) := fun j hj => by
    rcases hor with ⟨_, _, h2⟩ | ⟨_, h2, _⟩
    · exact (h1.els j hj).keepBut h2 (cEs_at hg0.1 j hj)
    · exact (h1.els j hj).keep h2
  have ht' : AExprV w' cs t := by
    rcases hor with ⟨_, _, h2⟩ | ⟨_, h2, _⟩
    · exact ht.keepBut h2 hg0.2
    · exact ht.keep h2
  refine ⟨?_, by simp [h.len], fun j hj => ?_, ?_, fun k hk => ?_⟩
  · have e1 : (ccs ++ [cs]).length = ccs.length + 1 := by simp
    have e2 : (ccs ++ [cs]).flatten = ccs.flatten ++ cs := by simp
    rw [e1, e2]
    exact ho
  · have hl := h.len
    rw [getD_snoc j (by simp at hj; omega)]
    simp only [List.length_append, List.length_cons, List.length_nil] at hj
    by_cases e : j = ccs.length
    · rw [if_pos e, List.getElem_append_right (by omega)]
      simp
      exact ht'
    · rw [if_neg e, List.getElem_append_left (by omega)]
      exact hels j (by omega)
  · exact ((h.cnt.add hc hB hk.size).mono (Nat.le_refl _) hsz).congr fun b => by rw [cEs_append]; simp [cEs]
  · simp [Value.ownBlock] at hk
    subst hk
    rw [cEs_append]
    simp [cEs]
    omega

theorem GrowS.app {ts : List AS} {w1 : World} {cs : List Value} {t : AS} {g cap : Nat} (h : GrowS te w B rv ccs ts) (ht : AStmtV w1 cs t) (hcS : Cnts (fun b => sS b t) w.heap.size w1.heap.size) (hcX : Cnts (fun b => xS b t) w.heap.size w1.heap.size) (hk : Keep [] w w1) (hB : B ≤ w.heap.size)
    (ho : Own w' B te 12 (.slice (some ⟨g, 0, none⟩) (ccs.length + 1) cap) (ccs.length + 1) (ccs.flatten ++ cs)) (hor : appOr rv ccs.length 1 g w1 w') : GrowS te w' B (.slice (some ⟨g, 0, none⟩) (ccs.length + 1) cap) (ccs ++ [cs]) (ts ++ [t]) := by
  have h1 := h.keep hk
  have hsz : w1.heap.size ≤ w'.heap.size := by rcases hor with ⟨_, _, h⟩ | ⟨_, h, _⟩ <;> exact h.size
  have hgB : B ≤ g ∧ g < w'.heap.size := ho.lt g rfl
  have hg0 : (sSs g ts = 0 ∧ xSs g ts = 0) ∧ sS g t = 0 ∧ xS g t = 0 := by
    rcases hor with ⟨h2, _, _⟩ | ⟨h2, _, _⟩
    · exact ⟨h.apart g h2, hcS.out g (.inl (h.own.lt g h2).2), hcX.out g (.inl (h.own.lt g h2).2)⟩
    · exact ⟨⟨h1.cntS.out g (.inr (by omega)), h1.cntX.out g (.inr (by omega))⟩, hcS.out g (.inr (by omega)), hcX.out g (.inr (by omega))⟩
  have hels : ∀ j (hj : j < ts.length), AStmtV w' (ccs.getD j []) (ts[j]'hj) := fun j hj => by
    rcases hor with ⟨_, _, h2⟩ | ⟨_, h2, _⟩
    · exact (h1.els j hj).keepBut h2 (sSs_at hg0.1.1 j hj) (xSs_at hg0.1.2 j hj)
    · exact (h1.els j hj).keep h2
  have ht' : AStmtV w' cs t := by
    rcases hor with ⟨_, _, h2⟩ | ⟨_, h2, _⟩
    · exact ht.keepBut h2 hg0.2.1 hg0.2.2
    · exact ht.keep h2
  refine ⟨?_, by simp [h.len], fun j hj => ?_, ?_, ?_, fun k hk => ?_⟩
  · have e1 : (ccs ++ [cs]).length = ccs.length + 1 := by simp
    have e2 : (ccs ++ [cs]).flatten = ccs.flatten ++ cs := by simp
    rw [e1, e2]
    exact ho
  · have hl := h.len
    rw [getD_snoc j (by simp at hj; omega)]
    simp only [List.length_append, List.length_cons, List.length_nil] at hj
    by_cases e : j = ccs.length
    · rw [if_pos e, List.getElem_append_right (by omega)]
      simp
      exact ht'
    · rw [if_neg e, List.getElem_append_left (by omega)]
      exact hels j (by omega)
  · exact ((h.cntS.add hcS hB hk.size).mono (Nat.le_refl _) hsz).congr fun b => by rw [sSs_append]; simp [sSs]
  · exact ((h.cntX.add hcX hB hk.size).mono (Nat.le_refl _) hsz).congr fun b => by rw [xSs_append]; simp [xSs]
  · simp [Value.ownBlock] at hk
    subst hk
    rw [sSs_append, xSs_append]
    simp [sSs, xSs]
    omega

theorem GrowE.done {ts : List AE} (h : GrowE te w B rv ccs ts) : ∃ g, AExprsV w rv g ts ∧ Cnts (fun b => hit g b ts.length + cEs b ts) B w.heap.size := by
  have hk : ∀ c ∈ ccs, c.length = 4 := fun c hm => by
    obtain ⟨i, hi, rfl⟩ := List.mem_iff_getElem.1 hm
    have := (h.els i (by rw [← h.len]; exact hi)).length
    rwa [List.getD_eq_getElem?_getD, List.getElem?_eq_getElem hi] at this
  obtain ⟨a, cap, hv, hr⟩ := own_rowAt h.own hk
  rw [h.len] at hv hr
  rcases Nat.eq_zero_or_pos ts.length with h0 | h0
  · refine ⟨0, ⟨a, cap, fun _ => [], hv, fun h1 => by omega, fun i hi => by omega⟩, h.cnt.congr fun b => by rw [h0]; simp [hit]⟩
  · obtain ⟨g, q, ha, hF, hra⟩ := hr h0
    have hlt := h.own.lt g hF
    rcases h.own.2 with ⟨_, h2⟩ | ⟨g', cap', cur, h1, _, hb, _, _, _⟩
    · rw [h.len] at h2; omega
    · rw [h1] at hF hv
      simp [Value.ownBlock] at hF
      subst hF
      injection hv with e1 e2 e3
      rw [← e1] at ha
      injection ha with ha
      injection ha with _ e4
      subst e4
      exact ⟨g', ⟨_, cap', _, by rw [h1, h.len], fun _ => ⟨rfl, ⟨_, _, hb⟩, hra⟩, h.els⟩, h.cnt.row (h.apart g' (by rw [h1]; rfl)) hlt.1 hlt.2⟩
theorem GrowS.done {ts : List AS} (h : GrowS te w B rv ccs ts) : ∃ g, AStmtsV w rv g ts ∧ Cnts (fun b => hit g b ts.length + sSs b ts) B w.heap.size := by
  have hk : ∀ c ∈ ccs, c.length = 12 := fun c hm => by
    obtain ⟨i, hi, rfl⟩ := List.mem_iff_getElem.1 hm
    have := (h.els i (by rw [← h.len]; exact hi)).length
    rwa [List.getD_eq_getElem?_getD, List.getElem?_eq_getElem hi] at this
  obtain ⟨a, cap, hv, hr⟩ := own_rowAt h.own hk
  rw [h.len] at hv hr
  rcases Nat.eq_zero_or_pos ts.length with h0 | h0
  · refine ⟨0, ⟨a, cap, fun _ => [], hv, fun h1 => by omega, fun i hi => by omega⟩, h.cntS.congr fun b => by rw [h0]; simp [hit]⟩
  · obtain ⟨g, q, ha, hF, hra⟩ := hr h0
    have hlt := h.own.lt g hF
    rcases h.own.2 with ⟨_, h2⟩ | ⟨g', cap', cur, h1, _, hb, _, _, _⟩
    · rw [h.len] at h2; omega
    · rw [h1] at hF hv
      simp [Value.ownBlock] at hF
      subst hF
      injection hv with e1 e2 e3
      rw [← e1] at ha
      injection ha with ha
      injection ha with _ e4
      subst e4
      exact ⟨g', ⟨_, cap', _, by rw [h1, h.len], fun _ => ⟨rfl, ⟨_, _, hb⟩, hra⟩, h.els⟩, h.cntS.row (h.apart g' (by rw [h1]; rfl)).1 hlt.1 hlt.2⟩
end
end E
end Go.Proofs.Ytcgigfnbjmlhhad

/- Contracts of the document's Own: a program in memory of its own, each row in a block of its own. -/
namespace Go.Proofs.Ytcgigfnbjmlhhad
set_option maxRecDepth 20000
set_option maxHeartbeats 4000000
namespace E
open Go.Proofs

theorem built_expr3 (a b c : Int) : Try.prog.built 47 [(0, .int .i64 a), (1, .int .i64 b), (2, .int .i64 c)] = some [Value.int .i64 a, .int .i64 b, .int .i64 c, .slice none 0 0].toArray := by kernel_rfl

theorem erEs_take_succ {ts : List AE} {l : List ET} {t' : AE} {i : Nat} (h : erEs ts = l.take i) (hlt : i < l.length) (ht : erE t' = l[i]) : erEs (ts ++ [t']) = l.take (i + 1) := by
  rw [erEs_map] at h ⊢
  rw [List.take_succ_eq_append_getElem hlt, List.map_append, h, ← ht]
  rfl
theorem erSs_take_succ {ts : List AS} {l : List ST} {t' : AS} {i : Nat} (h : erSs ts = l.take i) (hlt : i < l.length) (ht : erS t' = l[i]) : erSs (ts ++ [t']) = l.take (i + 1) := by
  rw [erSs_map] at h ⊢
  rw [List.take_succ_eq_append_getElem hlt, List.map_append, h, ← ht]
  rfl

theorem ownExpr_ret : ∀ (k : Nat) (t : ET), szE t ≤ k → szE t ≤ 1000 → ∀ {F : Nat → Prop} {w : World} {cs : List Value}, ExprV F w cs t → In F w →
    Ret Try.prog 25 [.agg cs.toArray] w fun r w' => (∃ t' cs', r = .agg cs'.toArray ∧ AExprV w' cs' t' ∧ erE t' = t ∧ Cnts (fun b => cE b t') w.heap.size w'.heap.size) ∧ Keep [] w w' := by
  intro k
  induction k with
  | zero => intro t ht; have := szE_pos t; omega
  | succ k ih =>
    intro t ht ht3 F w cs h hF
    obtain ⟨op, v, n, l⟩ := t
    obtain ⟨lv, rfl, hl⟩ := h.inv
    obtain ⟨a, cap, rfl⟩ := hl.form
    simp only [szE] at ht ht3
    have hlen := szEs_len l
    refine ret_of 31 Try.func25 rfl rfl (by simp) ?_
    refine au ?_
    refine pl_op rfl rfl (opTo_boxN [.int .i64 op, .int .i64 v, .int .i64 n, .slice a l.length cap] rfl rfl rfl ?_)
    intro w1 b1 hb1 hs1 hk1 hB1
    refine pl_op rfl rfl (opTo_allocN _ rfl zero_expr ?_)
    intro w2 b2 hb2 hs2 hk2 hB2
    have hB12 := hk2.blk hB1 (by simp)
    refine aub ?_
    refine pl_val _ rfl rfl (val_build _ rfl rfl (built_expr3 op v n) w2) ?_
    refine pl_op rfl rfl (opTo_allocN _ rfl zero_expr ?_)
    intro w3 b3 hb3 hs3 hk3 hB3
    refine pl_op rfl rfl (opTo_storeN _ rfl rfl rfl rfl (by kernel_rfl) hB3 (by simp [exprZ]) (by intro u hu; simp at hu; rcases hu with rfl | rfl | rfl | rfl <;> rfl) ?_)
    intro w4 hs4 hk4 hB34
    rw [splice_whole (by rfl)] at hB34
    have hk24 : Keep [] w2 w4 := hk3.trB hk4 (by omega)
    have hB14 := hk24.blk hB12 (by simp)
    have hB24 := hk24.blk hB2 (by simp)
    have hkw4 : Keep [] w w4 := (hk1.tr hk2).tr hk24
    clear hk1 hk2 hk3 hk4 hk24 hB1 hB2 hB3 hB12
    refine au ?_
    refine rn_ind (fun m σ w' => ∃ (i : Nat) (rv : Value) (ccs : List (List Value)) (ts : List AE), i ≤ l.length ∧ m = l.length - i ∧ σ = [(1, .pointer (some ⟨b1, 0, none⟩)), (2, .pointer (some ⟨b2, 0, none⟩)), (3, .pointer (some ⟨b3, 0, none⟩)), (4, .int .i64 (i : Nat))] ∧
      Blk w' b1 [.int .i64 op, .int .i64 v, .int .i64 n, .slice a l.length cap] 47 ∧ Blk w' b2 exprZ 47 ∧ Blk w' b3 [.int .i64 op, .int .i64 v, .int .i64 n, rv] 47 ∧
      GrowE 47 w' (b3 + 1) rv ccs ts ∧ erEs ts = l.take i ∧ Keep [] w w') l.length _ ?_ ⟨0, _, [], [], by omega, by omega, rfl, hB14, hB24, hB34, GrowE.nil _ _ _, rfl, hkw4⟩ ?_
    · exact ⟨rfl, rfl, rfl, rfl, trivial⟩
    clear hB14 hB24 hB34 hkw4
    rintro m σ w5 ih2 ⟨i, rv, ccs, ts, hi, rfl, rfl, hB1, hB2, hB3, hG, her, hkw⟩
    have hti : ts.length = i := by
      have := congrArg List.length her
      rw [erEs_length, List.length_take] at this
      omega
    refine au ?_
    refine pl_val _ rfl rfl (val_load1 hT rfl rfl rfl (hB1.cell rfl)) ?_
    refine au ?_
    by_cases hlt : i < l.length
    · refine ye ?_
      refine au ?_
      have hget : l[i]? = some l[i] := List.getElem?_eq_getElem hlt
      have hsz := szEs_at hget
      obtain ⟨bb, q, cap', ci, hv, _, hra, hci⟩ := (hl.keep hkw hF.stays).at hget
      cases hv
      have hF5 := hF.keep hkw
      have hbb : bb < w5.heap.size := by
        have h0 : ∃ u, ci[0]? = some u := ⟨ci[0]'(by rw [hci.length]; decide), List.getElem?_eq_getElem _⟩
        obtain ⟨u, hu⟩ := h0
        exact World.block_lt_of_cell? _ _ (hra 0 u hu)
      refine rn_draw (fun w' => Keep [] w5 w') [9, 11] hMix ?_
      have hS : Keep [] w5 w5.drew := (Keep.refl _ _).drew
      generalize w5.drew = w6 at *
      refine tk 0 ?_
      refine dr_val 1 rv rfl (by decide +kernel) rfl rfl (fun w9 hS9 => val_load1 hT rfl rfl rfl ((hS9.blk hB3 (by simp)).cell rfl)) hS ?_
      refine tk 2 ?_
      refine dr_val 3 _ rfl (by decide +kernel) rfl rfl (fun w9 hS9 => val_load1 hT rfl rfl rfl ((hS9.blk hB1 (by simp)).cell rfl)) hS ?_
      refine tk 4 ?_
      refine dr_any 5 _ rfl (by decide +kernel) rfl rfl (fun w => val_index i hT rfl rfl rfl rfl rfl hlt w) ?_
      refine dr_val 6 (.agg ci.toArray) rfl (by decide +kernel) rfl rfl (fun w9 hS9 => val_load ci hT rfl rfl (by rw [hci.length]; rfl) (range_keep hra hS9 hbb (by simp))) hS ?_
      refine dr_op 7 rfl (by decide +kernel) rfl rfl (opTo_call rfl rfl rfl rfl (by decide +kernel) ((ih l[i] (by omega) (by omega) (hci.keep hS hF5.stays) (hF5.keep hS)).mono ?_))
      rintro v7 w7 ⟨⟨t', cs', rfl, hA, he, hC⟩, hk7⟩
      have hS7 := hS.tr hk7
      refine ⟨fun _ => hS7, ?_⟩
      obtain ⟨c0, c1, c2, c3, rfl⟩ := list4 hA.length
      refine dr_op 8 rfl (by decide +kernel) rfl rfl (opTo_sliceN _ _ rfl rfl (slice_expr c0 c1 c2 c3) ?_)
      intro w8 x8 hx8 hs8 hk8 hX8
      have hS8 := hS7.tr hk8
      refine ⟨fun _ => hS8, ?_⟩
      have hG6 := hG.keep hS
      have hG8 := hG.keep hS8
      have hk68 := hk7.tr hk8
      have hci3 := hG.len
      refine dr_op 9 rfl (by decide +kernel) rfl rfl (opTo_app (b3 + 1) 47 4 48 ccs.flatten [c0, c1, c2, c3] rfl rfl rfl (by decide +kernel) hG8.own (hX8.range (by rfl)) rfl hA.plain.one (by decide) (by unfold maxLen; omega) (by omega) (by have := hB3.lt; have := hS8.size; omega) ?_)
      intro g9 cap9 w9 ho9 hor9
      refine ⟨fun h => absurd h (by simp), ?_⟩
      have hG9 := hG6.app (t := t') (hA.keep hk8) (hC.mono (Nat.le_refl _) hk8.size) hk68 (by have := hB3.lt; have := hS.size; omega) ho9 hor9
      have keepLow : ∀ (x : Nat) (L : List Value) (e : TypeId), x ≤ b3 → Blk w5 x L e → Blk w9 x L e := fun x L e hx hB => by
        have h8 := hS8.blk hB (by simp)
        rcases hor9 with ⟨h2, _, h3⟩ | ⟨_, h3, _⟩
        · exact h3.blk h8 (by have := (hG8.own.lt g9 h2).1; simp; omega)
        · exact h3.blk h8 (by simp)
      have hkw9 : Keep [] w w9 := by
        rcases hor9 with ⟨h2, _, h3⟩ | ⟨_, h3, _⟩
        · exact (hkw.tr hS8).trB h3 (by have := (hG8.own.lt g9 h2).1; omega)
        · exact (hkw.tr hS8).tr h3
      have hB1' := keepLow b1 _ _ (by omega) hB1
      have hB2' := keepLow b2 _ _ (by omega) hB2
      have hB3' := keepLow b3 _ _ (by omega) hB3
      refine dr_any 10 _ rfl (by decide +kernel) rfl rfl (fun w => val_pure hT rfl w) ?_
      refine dr_op 11 rfl (by decide +kernel) rfl rfl (opTo_storeN [.slice (some ⟨g9, 0, none⟩) (ccs.length + 1) cap9] rfl rfl rfl rfl (by kernel_rfl) hB3' (by simp) (by simp; rfl) ?_)
      intro w10 hs10 hk10 hB310
      refine ⟨fun h => absurd h (by simp), ?_⟩
      refine dr_done (by decide +kernel) ?_
      refine au ?_
      refine pl_num (((i + 1 : Nat) : Int)) rfl rfl rfl rfl rfl (by simp only [ariP]; omega) ?_
      refine au ?_
      refine rn_sub ?_ (ih2 (l.length - (i + 1)) [(1, .pointer (some ⟨b1, 0, none⟩)), (2, .pointer (some ⟨b2, 0, none⟩)), (3, .pointer (some ⟨b3, 0, none⟩)), (4, .int .i64 ((i + 1 : Nat) : Int))] w10 (by omega)
        ⟨i + 1, _, ccs ++ [[c0, c1, c2, c3]], ts ++ [t'], by omega, rfl, rfl, hk10.blk hB1' (by simp; omega), hk10.blk hB2' (by simp; omega), hB310, hG9.other hk10 (by omega), erEs_take_succ her hlt he, hkw9.trB hk10 (by omega)⟩)
      exact ⟨rfl, rfl, rfl, rfl, trivial⟩
    · refine nay ?_
      refine au ?_
      obtain ⟨g, hA, hC⟩ := hG.done
      rw [List.take_of_length_le (by omega)] at her
      refine pl_val _ rfl rfl (val_load [.int .i64 op, .int .i64 v, .int .i64 n, rv] hT rfl rfl rfl (hB3.range (by rfl))) ?_
      have hAE : AExprV w5 [.int .i64 op, .int .i64 v, .int .i64 n, rv] (.mk op v n g ts) := AExprV.of hA
      have hCE : Cnts (fun b => cE b (.mk op v n g ts)) (b3 + 1) w5.heap.size := hC.congr fun b => by simp only [cE]
      refine pl_op rfl rfl (opTo_storeN _ rfl rfl rfl rfl (by kernel_rfl) hB2 (by simp [exprZ]) hAE.plain.one ?_)
      intro w6 hs6 hk6 hB26
      rw [splice_whole (by rfl)] at hB26
      refine au ?_
      refine rn_ret Try.func25 (.inr (.inr (.inl ⟨_, _, _, rfl, rfl, blk_loadVar hT hB26 rfl⟩))) ⟨⟨_, _, rfl, hAE.keepBut hk6 (hCE.out b2 (by omega)), by simp only [erE, her], hCE.mono (by omega) (by omega)⟩, hkw.trB hk6 (by omega)⟩
end E
end Go.Proofs.Ytcgigfnbjmlhhad
