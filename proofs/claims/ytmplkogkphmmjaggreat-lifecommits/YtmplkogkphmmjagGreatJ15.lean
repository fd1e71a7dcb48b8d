/- Several texts in one: CkB, CkC, LkD, LkE. -/
import Derived.Test.YtmplkogkphmmjagGreatJ14
import Derived.Lib.AppendZeros
/- The landed maker: contract of expr. -/
namespace Go.Proofs.YtmplkogkphmmjagGreat
set_option maxRecDepth 20000
set_option maxHeartbeats 4000000
namespace E
open Go.Proofs

theorem neEM : 94 ≠ tMk := by decide
theorem neEI : 94 ≠ tIn := by decide
theorem zero_me : ((Tryz.prog.info? 94).bind (·.zero)).map (·.cells) = some [Value.int .i64 0, .int .i64 0, .int .i64 0, .slice none 0 0].toArray := by kernel_rfl
theorem size_me : sizeOk Tryz.prog 94 4 = true := by kernel_rfl

/-- expr does for what is smaller. -/
def ExM (vs : List VarT) (F : Nat → Prop) (w0 : World) (b : Nat) (vv bv : Value) (s : Nat) : Prop := ∀ (t : ET), szE t < s → gdE vs.length t → ∀ {w : World} {cs : List Value} {L : List Is}, ExprV F w0 cs t → Mt w0 w b L vv bv → L.length + szE t ≤ 900000 →
    Ret Tryz.prog 74 [.pointer (some ⟨b, 0, none⟩), .agg cs.toArray] w fun r w' => r = .tuple #[] ∧ Mt w0 w' b (L ++ insE vs t) vv bv ∧ Mf w w'

theorem mexpr_ret {vs : List VarT} {bd : List ST} {F : Nat → Prop} {w0 : World} {vv bv : Value} (C : CxK vs bd F w0 vv bv) {b : Nat} : ∀ (s : Nat), ExM vs F w0 b vv bv s := by
  intro s
  induction s with
  | zero => intro t ht; omega
  | succ s ihs =>
    intro t ht hgd w cs L hX h hl
    obtain ⟨op, v, n, l⟩ := t
    obtain ⟨lv, rfl, hE⟩ := hX.inv
    obtain ⟨a, cap, rfl⟩ := hE.form
    obtain ⟨hg1, hg2⟩ := hgd
    simp only [szE] at ht hl
    have hlen := szEs_len l
    have hil := insEs_len vs l
    refine ret_of 49 Tryz.func74 rfl rfl (by simp) ?_
    refine au ?_
    refine pl_op rfl rfl (opTo_boxN [.int .i64 op, .int .i64 v, .int .i64 n, .slice a l.length cap] rfl rfl rfl ?_)
    intro w1 x1 hx1 hs1 hk1 hX1
    have h1 := h.keep0 hk1
    refine auj ?_
    refine rn_seq ?_
    refine rn_seq ?_
    refine auj ?_
    refine rn_plain ?_
    refine auj ?_
    refine pl_val _ rfl rfl (val_load1 hT rfl rfl rfl (hX1.cell rfl)) ?_
    refine au ?_
    refine rn_ind (fun m σ w' => ∃ i : Nat, i ≤ l.length ∧ m = l.length - i ∧ σ = [(0, .pointer (some ⟨b, 0, none⟩)), (3, .pointer (some ⟨x1, 0, none⟩)), (8, .slice a l.length cap), (9, .int .i64 (l.length : Nat)), (10, .int .i64 (i : Nat))] ∧ Mt w0 w' b (L ++ insEs vs (l.take i)) vv bv ∧ Mf w1 w') l.length _ ?_ ⟨0, by omega, by omega, rfl, by simpa [insEs] using h1, Mf.refl _⟩ ?_
    · exact ⟨rfl, rfl, rfl, rfl, rfl, trivial⟩
    rintro m σ w6 ih ⟨i, hi, rfl, rfl, h6, ho6⟩
    refine au ?_
    by_cases hlt : i < l.length
    · refine ye ?_
      have hxi : l[i]? = some l[i] := List.getElem?_eq_getElem hlt
      obtain ⟨b1, q1, c1, ci, hv1, hF1, hr1, hc1⟩ := hE.at hxi
      cases hv1
      have hszi := szEs_succ hxi
      have hszt := szEs_take l (i + 1)
      have hl1 := insEs_len vs (l.take i)
      have htk := insEs_take vs hxi
      refine au ?_
      refine pl_val _ rfl rfl (val_index i hT rfl rfl rfl rfl rfl hlt w6) ?_
      refine pl_val (.agg ci.toArray) rfl rfl (val_load ci hT rfl rfl (by rw [hc1.length]; rfl) (range_keep hr1 h6.kp (C.hF _ hF1) (by simp))) ?_
      refine pl_op rfl rfl (opTo_allocN _ rfl zero_me ?_)
      intro w7 x2 hx2 hs7 hk7 hb7
      refine pl_op rfl rfl (opTo_storeN ci rfl rfl rfl rfl (by rw [hc1.length]; exact size_me) hb7 (by rw [hc1.length]; simp) hc1.one ?_)
      intro w8 hs8 hk8 hb8
      rw [splice_whole (by rw [hc1.length]; rfl)] at hb8
      have hk68 : Keep [] w6 w8 := hk7.trB hk8 (by omega)
      refine au ?_
      refine pl_val (.agg ci.toArray) rfl rfl (val_load ci hT rfl rfl (by rw [hc1.length]; rfl) (hb8.range (by simp))) ?_
      refine pl_op rfl rfl (opTo_call (fst := []) (cap := []) rfl rfl rfl rfl (by decide +kernel) ((ihs l[i] (by omega) (gdEs_at hg2 hxi) hc1 (h6.keep0 hk68) (by simp only [List.length_append]; omega)).mono ?_))
      rintro r w9 ⟨rfl, h9, ho9⟩
      refine au ?_
      refine pl_num (((i + 1 : Nat) : Int)) rfl rfl rfl rfl rfl (by simp only [ariP]; omega) ?_
      refine au ?_
      refine rn_sub ?_ (ih (l.length - (i + 1)) [(0, .pointer (some ⟨b, 0, none⟩)), (3, .pointer (some ⟨x1, 0, none⟩)), (8, .slice (some ⟨b1, q1, none⟩) l.length cap), (9, .int .i64 (l.length : Nat)), (10, .int .i64 ((i + 1 : Nat) : Int))] w9 (by omega) ⟨i + 1, by omega, rfl, rfl, ?_, (ho6.tr (Mf.of0 hk68)).tr ho9⟩)
      · exact ⟨rfl, rfl, rfl, rfl, rfl, trivial⟩
      · rw [htk, ← List.append_assoc]
        exact h9
    · refine nay ?_
      rw [List.take_of_length_le (by omega)] at h6
      have hX6 := ho6.blk hX1 neEM neEI
      refine au ?_
      refine pl_val _ rfl rfl (val_load1 hT rfl rfl rfl (hX6.cell rfl)) ?_
      refine au ?_
      refine pl_val _ rfl rfl (val_load1 hT rfl rfl rfl (hX6.cell rfl)) ?_
      refine pl_val _ rfl rfl (val_build _ rfl rfl (built_mi03 op n) w6) ?_
      refine pl_op rfl rfl (opTo_allocN _ rfl zero_mi ?_)
      intro w7 x7 hx7 hs7 hk7 hb7
      refine pl_op rfl rfl (opTo_storeN (iC (op, 0, 0, n)) rfl rfl rfl rfl size_mi hb7 (by simp [iC]) (iC_mone _) ?_)
      intro w8 hs8 hk8 hb8
      rw [splice_whole (by rfl)] at hb8
      have hk68 : Keep [] w6 w8 := hk7.trB hk8 (by omega)
      have hX8 := hk68.blk hX6 (by simp)
      obtain ⟨mv, h8⟩ := h6.keep0 hk68
      refine auj ?_
      refine rn_seq ?_
      refine rn_with (fun σ' w' => Blk w' x7 (iC (op, if op = 2 ∨ op = 3 then cellOf vs v else 0, if op = 3 then sizeV vs v else 0, n)) tIn ∧ Keep [] w6 w' ∧ Sub [(0, .pointer (some ⟨b, 0, none⟩)), (6, .pointer (some ⟨x7, 0, none⟩))] σ') ?_ ?_
      rotate_left
      · intro fin
        refine au ?_
        refine pl_val _ rfl rfl (val_load1 hT rfl rfl rfl (hX8.cell rfl)) ?_
        refine au ?_
        by_cases h2 : op = 2
        · rw [if_pos (.inl h2), if_neg (by omega)] at fin
          refine ye ?_
          refine auj ?_
          refine rn_plain ?_
          refine auj ?_
          refine pl_val _ rfl rfl (val_load1 hT rfl rfl rfl (hX8.cell rfl)) ?_
          refine pl_op rfl rfl (opTo_call (fst := []) (cap := []) rfl rfl rfl rfl (by decide +kernel) ((mcell_ret C h8 v).mono ?_))
          rintro r w9 ⟨rfl, hk9⟩
          refine au ?_
          refine pl_op rfl rfl (opTo_storeN [.int .i64 (cellOf vs v)] rfl rfl rfl rfl size_mn (hk9.blk hb8 (by simp)) (by simp [iC]) (mone rfl) ?_)
          intro w10 hs10 hk10 hb10
          refine auj ?_
          exact fin _ _ ⟨hb10, (hk68.tr hk9).trB hk10 (by omega), rfl, rfl, trivial⟩
        · refine nay ?_
          refine au ?_
          by_cases h3 : op = 3
          · obtain ⟨hv0, hvl⟩ := hg1 (.inr h3)
            rw [if_pos (.inr h3), if_pos h3] at fin
            refine ye ?_
            refine auj ?_
            refine rn_draw (fun w' => Keep [] w8 w') [9, 11] hMix ?_
            have hS : Keep [] w8 w8.drew := (Keep.refl _ _).drew
            generalize w8.drew = w9 at *
            refine tk 0 ?_
            refine tk 1 ?_
            refine dr_val 2 (.int .i64 v) rfl (by decide +kernel) rfl rfl (fun w9 hS9 => val_load1 hT rfl rfl rfl ((hS9.blk hX8 (by simp)).cell rfl)) hS ?_
            refine tk 4 ?_
            refine tk 5 ?_
            refine dr_val 6 (.int .i64 v) rfl (by decide +kernel) rfl rfl (fun w9 hS9 => val_load1 hT rfl rfl rfl ((hS9.blk hX8 (by simp)).cell rfl)) hS ?_
            refine dr_op 3 rfl (by decide +kernel) rfl rfl (opTo_call (fst := []) (cap := []) rfl rfl rfl rfl (by decide +kernel) ((mcell_ret C (h8.keep0 hS) v).mono ?_))
            rintro r w10 ⟨rfl, hk10⟩
            have hS10 := hS.tr hk10
            refine ⟨fun _ => hS10, ?_⟩
            refine tk 8 ?_
            refine dr_op 7 rfl (by decide +kernel) rfl rfl (opTo_call (fst := []) (cap := []) rfl rfl rfl rfl (by decide +kernel) ((msize_ret C (h8.keep0 hS10) v hv0 hvl).mono ?_))
            rintro r w10' ⟨rfl, hww⟩
            rw [hww]
            refine ⟨fun _ => hS10, ?_⟩
            refine dr_op 9 rfl (by decide +kernel) rfl rfl (opTo_storeN [.int .i64 (cellOf vs v)] rfl rfl rfl rfl size_mn (hS10.blk hb8 (by simp)) (by simp [iC]) (mone rfl) ?_)
            intro w11 hs11 hk11 hb11
            refine ⟨fun h => absurd (by simp) h, ?_⟩
            refine tk 10 ?_
            refine dr_op 11 rfl (by decide +kernel) rfl rfl (opTo_storeN [.int .i64 (sizeV vs v)] rfl rfl rfl rfl size_mn hb11 (by simp [iC, splice]) (mone rfl) ?_)
            intro w12 hs12 hk12 hb12
            refine ⟨fun h => absurd (by simp) h, ?_⟩
            refine dr_done (by decide +kernel) ?_
            refine auj ?_
            exact fin _ _ ⟨hb12, ((hk68.tr hS10).trB hk11 (by omega)).trB hk12 (by omega), rfl, rfl, trivial⟩
          · refine nay ?_
            rw [if_neg (by omega), if_neg h3] at fin
            refine auj ?_
            exact fin _ _ ⟨hb8, hk68, rfl, rfl, trivial⟩
      clear hb8 hk8 hs8 h8 hX8 hk68
      rintro σ' w10 ⟨hb10, hk610, hsub⟩
      refine rn_sub hsub ?_
      obtain ⟨X, hXe⟩ : ∃ X : Is, X = (op, if op = 2 ∨ op = 3 then cellOf vs v else 0, if op = 3 then sizeV vs v else 0, n) := ⟨_, rfl⟩
      rw [← hXe] at hb10
      refine rn_draw (fun w' => Keep [] w10 w') [4] hMix ?_
      have hS : Keep [] w10 w10.drew := (Keep.refl _ _).drew
      generalize w10.drew = w11 at *
      refine tk 0 ?_
      refine tk 1 ?_
      refine tk 2 ?_
      refine dr_val 3 (.agg (iC X).toArray) rfl (by decide +kernel) rfl rfl (fun w9 hS9 => val_load (iC X) hT rfl rfl rfl ((hS9.blk hb10 (by simp)).range (by rfl))) hS ?_
      refine dr_op 4 rfl (by decide +kernel) rfl rfl (opTo_call (fst := []) (cap := []) rfl rfl rfl rfl (by decide +kernel) ((madd_ret (h6.keep0 (hk610.tr hS)) X (by simp only [List.length_append]; omega)).mono ?_))
      rintro r w12 ⟨rfl, h12, ho12⟩
      refine ⟨fun h => absurd (by simp) h, ?_⟩
      refine dr_done (by decide +kernel) ?_
      refine au ?_
      refine rn_end Tryz.func74 (.inr (.inl ⟨rfl, rfl⟩)) ⟨rfl, ?_, ((Mf.of0 hk1).tr ho6).tr ((Mf.of0 (hk610.tr hS)).tr ho12)⟩
      simp only [insE]
      rw [← hXe, ← List.append_assoc]
      exact h12
end E
end Go.Proofs.YtmplkogkphmmjagGreat

/- The landed maker: contracts of stmts, loop, choice, stmt, and of Make. -/
namespace Go.Proofs.YtmplkogkphmmjagGreat
set_option maxRecDepth 20000
set_option maxHeartbeats 4000000
namespace E
open Go.Proofs

theorem neSM : 99 ≠ tMk := by decide
theorem neSI : 99 ≠ tIn := by decide
theorem zero_mt : ((Tryz.prog.info? 99).bind (·.zero)).map (·.cells) = some stmtZ.toArray := by kernel_rfl
theorem size_mt : sizeOk Tryz.prog 99 12 = true := by kernel_rfl
theorem list4m {l : List Value} (h : l.length = 4) : ∃ a b c d, l = [a, b, c, d] := by
  match l, h with
  | [a, b, c, d], _ => exact ⟨a, b, c, d, rfl⟩

/-- What loop and choice make behind what there is. -/
def whT (i0 : Nat) (L X : List Is) : List Is := L ++ (13, ((L.length + 1 + X.length + 1 : Nat) : Int), 0, 0) :: (X ++ [(14, ((i0 : Nat) : Int), 0, 0)])
def ifT (L X Y : List Is) : List Is := L ++ (13, ((L.length + 1 + X.length + 1 : Nat) : Int), 0, 0) :: (X ++ (14, ((L.length + 1 + X.length + 1 + Y.length : Nat) : Int), 0, 0) :: Y)

section
variable {w0 w : World} {b : Nat} {vv bv : Value}
theorem mleadT {l l' p r : List Is} {op a c n : Int} (k : Nat) (h : Mt w0 w b l vv bv) (hk : k = p.length) (hl : l = p ++ (op, a, c, n) :: r) (hl' : l' = p ++ (op, ((l.length : Nat) : Int), c, n) :: r) : Ret Tryz.prog 94 [.pointer (some ⟨b, 0, none⟩), .int .i64 (k : Nat)] w fun r' w' => r' = .tuple #[] ∧ Mt w0 w' b l' vv bv ∧ Mf w w' := by
  subst hk hl hl'
  exact mlead_ret h
theorem maddT {l l' : List Is} (k : Nat) (h : Mt w0 w b l vv bv) (x : Is) (hl : l.length ≤ 900000) (hk : k = l.length) (hl' : l' = l ++ [x]) : Ret Tryz.prog 38 [.pointer (some ⟨b, 0, none⟩), .agg (iC x).toArray] w fun r w' => r = .int .i64 (k : Nat) ∧ Mt w0 w' b l' vv bv ∧ Mf w w' := by
  subst hk hl'
  exact madd_ret h x hl
end

/-- stmt does for what is smaller. -/
def StM (vs : List VarT) (F : Nat → Prop) (w0 : World) (b : Nat) (vv bv : Value) (s : Nat) : Prop := ∀ (t : ST), szS t < s → gdS vs.length t → ∀ {w : World} {cs : List Value} {L : List Is}, StmtV F w0 cs t → Mt w0 w b L vv bv → L.length + 2 * szS t ≤ 900000 →
    Ret Tryz.prog 57 [.pointer (some ⟨b, 0, none⟩), .agg cs.toArray] w fun r w' => r = .tuple #[] ∧ Mt w0 w' b (L ++ insS vs t L.length) vv bv ∧ Mf w w'

section
variable {vs : List VarT} {bd : List ST} {F : Nat → Prop} {w0 : World} {vv bv : Value} {b s : Nat}
theorem mstmts_ret (hF : In F w0) (hst : StM vs F w0 b vv bv s) (l : List ST) (hls : szSs l < s) (hgd : gdSs vs.length l) {w : World} {x : Value} {L : List Is} (hE : StmtsV F w0 x l) (h : Mt w0 w b L vv bv) (hl : L.length + 2 * szSs l ≤ 900000) :
    Ret Tryz.prog 37 [.pointer (some ⟨b, 0, none⟩), x] w fun r w' => r = .tuple #[] ∧ Mt w0 w' b (L ++ insSs vs l L.length) vv bv ∧ Mf w w' := by
  obtain ⟨a, cap, rfl⟩ := hE.form
  have hlen := szSs_len l
  refine ret_of 16 Tryz.func37 rfl rfl (by simp) ?_
  refine au ?_
  refine rn_ind (fun m σ w' => ∃ i : Nat, i ≤ l.length ∧ m = l.length - i ∧ σ = [(0, .pointer (some ⟨b, 0, none⟩)), (6, .slice a l.length cap), (7, .int .i64 (l.length : Nat)), (8, .int .i64 (i : Nat))] ∧ Mt w0 w' b (L ++ insSs vs (l.take i) L.length) vv bv ∧ Mf w w') l.length _ ?_ ⟨0, by omega, by omega, rfl, by simpa [insSs] using h, Mf.refl _⟩ ?_
  · exact ⟨rfl, rfl, rfl, rfl, trivial⟩
  rintro m σ w6 ih ⟨i, hi, rfl, rfl, h6, ho6⟩
  refine au ?_
  by_cases hlt : i < l.length
  · refine ye ?_
    have hxi : l[i]? = some l[i] := List.getElem?_eq_getElem hlt
    obtain ⟨b1, q1, c1, ci, hv1, hF1, hr1, hc1⟩ := hE.at hxi
    cases hv1
    have hszi := szSs_succ hxi
    have hszt := szSs_take l (i + 1)
    have hl1 := insSs_len vs (l.take i) L.length
    have htk := insSs_take vs hxi L.length
    refine au ?_
    refine pl_val _ rfl rfl (val_index i hT rfl rfl rfl rfl rfl hlt w6) ?_
    refine pl_val (.agg ci.toArray) rfl rfl (val_load ci hT rfl rfl (by rw [hc1.length]; rfl) (range_keep hr1 h6.kp (hF _ hF1) (by simp))) ?_
    refine pl_op rfl rfl (opTo_allocN _ rfl zero_mt ?_)
    intro w7 x2 hx2 hs7 hk7 hb7
    refine pl_op rfl rfl (opTo_storeN ci rfl rfl rfl rfl (by rw [hc1.length]; exact size_mt) hb7 (by rw [hc1.length]; simp [stmtZ]) hc1.one ?_)
    intro w8 hs8 hk8 hb8
    rw [splice_whole (by rw [hc1.length]; rfl)] at hb8
    have hk68 : Keep [] w6 w8 := hk7.trB hk8 (by omega)
    refine au ?_
    refine pl_val (.agg ci.toArray) rfl rfl (val_load ci hT rfl rfl (by rw [hc1.length]; rfl) (hb8.range (by simp))) ?_
    refine pl_op rfl rfl (opTo_call (fst := []) (cap := []) rfl rfl rfl rfl (by decide +kernel) ((hst l[i] (by omega) (gdSs_at hgd hxi) hc1 (h6.keep0 hk68) (by simp only [List.length_append]; omega)).mono ?_))
    rintro r w9 ⟨rfl, h9, ho9⟩
    refine au ?_
    refine pl_num (((i + 1 : Nat) : Int)) rfl rfl rfl rfl rfl (by simp only [ariP]; omega) ?_
    refine au ?_
    refine rn_sub ?_ (ih (l.length - (i + 1)) [(0, .pointer (some ⟨b, 0, none⟩)), (6, .slice (some ⟨b1, q1, none⟩) l.length cap), (7, .int .i64 (l.length : Nat)), (8, .int .i64 ((i + 1 : Nat) : Int))] w9 (by omega) ⟨i + 1, by omega, rfl, rfl, ?_, (ho6.tr (Mf.of0 hk68)).tr ho9⟩)
    · exact ⟨rfl, rfl, rfl, rfl, trivial⟩
    · rw [htk, ← List.append_assoc]
      rw [List.length_append] at h9
      exact h9
  · refine nay ?_
    rw [List.take_of_length_le (by omega)] at h6
    refine au ?_
    exact rn_end Tryz.func37 (.inr (.inl ⟨rfl, rfl⟩)) ⟨rfl, h6, ho6⟩
theorem mstmtsT (hF : In F w0) (hst : StM vs F w0 b vv bv s) (l : List ST) (hls : szSs l < s) (hgd : gdSs vs.length l) {w : World} {x : Value} {L L' : List Is} (i0 : Nat) (hE : StmtsV F w0 x l) (h : Mt w0 w b L vv bv) (hl : L.length + 2 * szSs l ≤ 900000) (hi : i0 = L.length) (hL' : L' = L ++ insSs vs l i0) :
    Ret Tryz.prog 37 [.pointer (some ⟨b, 0, none⟩), x] w fun r w' => r = .tuple #[] ∧ Mt w0 w' b L' vv bv ∧ Mf w w' := by
  subst hi hL'
  exact mstmts_ret hF hst l hls hgd hE h hl

theorem mloop_ret (hF : In F w0) (hst : StM vs F w0 b vv bv s) (l : List ST) (hls : szSs l < s) (hgd : gdSs vs.length l) (i0 : Nat) {w : World} {x : Value} {L : List Is} (hE : StmtsV F w0 x l) (h : Mt w0 w b L vv bv) (hl : L.length + 2 * szSs l + 2 ≤ 900000) :
    Ret Tryz.prog 77 [.pointer (some ⟨b, 0, none⟩), .int .i64 (i0 : Nat), x] w fun r w' => r = .tuple #[] ∧ Mt w0 w' b (whT i0 L (insSs vs l (L.length + 1))) vv bv ∧ Mf w w' := by
  have hXl := insSs_len vs l (L.length + 1)
  obtain ⟨X, hX⟩ : ∃ X, X = insSs vs l (L.length + 1) := ⟨_, rfl⟩
  rw [← hX] at hXl ⊢
  refine ret_of 26 Tryz.func77 rfl rfl (by simp) ?_
  refine au ?_
  refine pl_val _ rfl rfl (val_build _ rfl rfl (built_mi0 13) w) ?_
  refine pl_op rfl rfl (opTo_call (fst := []) (cap := []) rfl rfl rfl rfl (by decide +kernel) ((madd_ret h (13, 0, 0, 0) (by omega)).mono ?_))
  rintro r w1 ⟨rfl, h1, ho1⟩
  refine au ?_
  refine pl_op rfl rfl (opTo_call (fst := []) (cap := []) rfl rfl rfl rfl (by decide +kernel) ((mstmtsT hF hst l hls hgd (L' := L ++ (13, 0, 0, 0) :: X) (L.length + 1) hE h1 (by simp; omega) (by simp) (by rw [hX]; simp)).mono ?_))
  rintro r w2 ⟨rfl, h2, ho2⟩
  refine au ?_
  refine pl_val _ rfl rfl (val_build _ rfl rfl (built_mi1 14 ((i0 : Nat) : Int)) w2) ?_
  refine pl_op rfl rfl (opTo_call (fst := []) (cap := []) rfl rfl rfl rfl (by decide +kernel) ((madd_ret h2 (14, ((i0 : Nat) : Int), 0, 0) (by simp; omega)).mono ?_))
  rintro r w3 ⟨rfl, h3, ho3⟩
  refine au ?_
  refine pl_op rfl rfl (opTo_call (fst := []) (cap := []) rfl rfl rfl rfl (by decide +kernel) ((mleadT (op := 13) (a := 0) (c := 0) (n := 0) (l' := whT i0 L X) (p := L) (r := X ++ [(14, ((i0 : Nat) : Int), 0, 0)]) L.length h3 rfl (by simp) (by simp [whT]; omega)).mono ?_))
  rintro r w4 ⟨rfl, h4, ho4⟩
  refine au ?_
  exact rn_end Tryz.func77 (.inr (.inl ⟨rfl, rfl⟩)) ⟨rfl, h4, ((ho1.tr ho2).tr ho3).tr ho4⟩

theorem mchoice_ret (hF : In F w0) (hst : StM vs F w0 b vv bv s) (l lo : List ST) (hls : szSs l + szSs lo < s) (hgd : gdSs vs.length l) (hgo : gdSs vs.length lo) {w : World} {x y : Value} {L : List Is} (hE : StmtsV F w0 x l) (hO : StmtsV F w0 y lo) (h : Mt w0 w b L vv bv) (hl : L.length + 2 * szSs l + 2 * szSs lo + 2 ≤ 900000) :
    Ret Tryz.prog 78 [.pointer (some ⟨b, 0, none⟩), x, y] w fun r w' => r = .tuple #[] ∧ Mt w0 w' b (ifT L (insSs vs l (L.length + 1)) (insSs vs lo (L.length + 1 + (insSs vs l (L.length + 1)).length + 1))) vv bv ∧ Mf w w' := by
  have hXl := insSs_len vs l (L.length + 1)
  obtain ⟨X, hX⟩ : ∃ X, X = insSs vs l (L.length + 1) := ⟨_, rfl⟩
  rw [← hX] at hXl ⊢
  have hYl := insSs_len vs lo (L.length + 1 + X.length + 1)
  obtain ⟨Y, hY⟩ : ∃ Y, Y = insSs vs lo (L.length + 1 + X.length + 1) := ⟨_, rfl⟩
  rw [← hY] at hYl ⊢
  refine ret_of 34 Tryz.func78 rfl rfl (by simp) ?_
  refine au ?_
  refine pl_val _ rfl rfl (val_build _ rfl rfl (built_mi0 13) w) ?_
  refine pl_op rfl rfl (opTo_call (fst := []) (cap := []) rfl rfl rfl rfl (by decide +kernel) ((madd_ret h (13, 0, 0, 0) (by omega)).mono ?_))
  rintro r w1 ⟨rfl, h1, ho1⟩
  refine au ?_
  refine pl_op rfl rfl (opTo_call (fst := []) (cap := []) rfl rfl rfl rfl (by decide +kernel) ((mstmtsT hF hst l (by omega) hgd (L' := L ++ (13, 0, 0, 0) :: X) (L.length + 1) hE h1 (by simp; omega) (by simp) (by rw [hX]; simp)).mono ?_))
  rintro r w2 ⟨rfl, h2, ho2⟩
  refine au ?_
  refine pl_val _ rfl rfl (val_build _ rfl rfl (built_mi0 14) w2) ?_
  refine pl_op rfl rfl (opTo_call (fst := []) (cap := []) rfl rfl rfl rfl (by decide +kernel) ((maddT (l' := L ++ (13, 0, 0, 0) :: (X ++ [(14, 0, 0, 0)])) (L.length + 1 + X.length) h2 (14, 0, 0, 0) (by simp; omega) (by simp; omega) (by simp)).mono ?_))
  rintro r w3 ⟨rfl, h3, ho3⟩
  refine au ?_
  refine pl_op rfl rfl (opTo_call (fst := []) (cap := []) rfl rfl rfl rfl (by decide +kernel) ((mleadT (op := 13) (a := 0) (c := 0) (n := 0) (l' := L ++ (13, ((L.length + 1 + X.length + 1 : Nat) : Int), 0, 0) :: (X ++ [(14, 0, 0, 0)])) (p := L) (r := X ++ [(14, 0, 0, 0)]) L.length h3 rfl rfl (by simp; omega)).mono ?_))
  rintro r w4 ⟨rfl, h4, ho4⟩
  refine au ?_
  refine pl_op rfl rfl (opTo_call (fst := []) (cap := []) rfl rfl rfl rfl (by decide +kernel) ((mstmtsT hF hst lo (by omega) hgo (L' := (L ++ (13, ((L.length + 1 + X.length + 1 : Nat) : Int), 0, 0) :: X) ++ (14, 0, 0, 0) :: Y) (L.length + 1 + X.length + 1) hO h4 (by simp; omega) (by simp; omega) (by rw [hY]; simp)).mono ?_))
  rintro r w5 ⟨rfl, h5, ho5⟩
  refine au ?_
  refine pl_op rfl rfl (opTo_call (fst := []) (cap := []) rfl rfl rfl rfl (by decide +kernel) ((mleadT (op := 14) (a := 0) (c := 0) (n := 0) (l' := ifT L X Y) (p := L ++ (13, ((L.length + 1 + X.length + 1 : Nat) : Int), 0, 0) :: X) (r := Y) (L.length + 1 + X.length) h5 (by simp; omega) rfl (by simp [ifT]; omega)).mono ?_))
  rintro r w6 ⟨rfl, h6, ho6⟩
  refine au ?_
  exact rn_end Tryz.func78 (.inr (.inl ⟨rfl, rfl⟩)) ⟨rfl, h6, ((((ho1.tr ho2).tr ho3).tr ho4).tr ho5).tr ho6⟩
end

theorem mstmt_ret {vs : List VarT} {bd : List ST} {F : Nat → Prop} {w0 : World} {vv bv : Value} (C : CxK vs bd F w0 vv bv) {b : Nat} : ∀ (s : Nat), StM vs F w0 b vv bv s := by
  intro s
  induction s with
  | zero => intro t ht; omega
  | succ s ihs =>
    intro t ht hgd w cs L hX h hl
    obtain ⟨op, v, e, f, lb, lo⟩ := t
    obtain ⟨ce, cf, bv', ov, rfl, he, hf, hb, ho⟩ := hX.inv
    obtain ⟨e0, e1, e2, e3, rfl⟩ := list4m he.length
    obtain ⟨f0, f1, f2, f3, rfl⟩ := list4m hf.length
    obtain ⟨ba, bc, rfl⟩ := hb.form
    obtain ⟨oa, oc, rfl⟩ := ho.form
    obtain ⟨hp1, hp2, hp3, hp4, hp5, hp6, hp7⟩ := hgd
    simp only [szS] at ht hl
    have hel := eI_len vs op e
    obtain ⟨E, hEdef⟩ : ∃ E, eI vs op e = E := ⟨_, rfl⟩
    rw [hEdef] at hel
    refine ret_of 100 Tryz.func57 rfl rfl (by simp) ?_
    refine au ?_
    refine pl_op rfl rfl (opTo_boxN [.int .i64 op, .int .i64 v, e0, e1, e2, e3, f0, f1, f2, f3, .slice ba lb.length bc, .slice oa lo.length oc] rfl rfl rfl ?_)
    intro w1 x1 hx1 hs1 hk1 hX1
    obtain ⟨mv1, h1⟩ := h.keep0 hk1
    refine au ?_
    refine pl_op rfl rfl (opTo_call (fst := []) (cap := []) rfl rfl rfl rfl (by decide +kernel) ((mnext_ret h1).mono ?_))
    rintro r w1' ⟨rfl, hww⟩
    rw [hww]
    refine auj ?_
    refine rn_seq ?_
    refine rn_with (fun σ' w' => Mt w0 w' b (L ++ E) vv bv ∧ Mf w1 w' ∧ Sub [(0, .pointer (some ⟨b, 0, none⟩)), (3, .pointer (some ⟨x1, 0, none⟩)), (4, .int .i64 (L.length : Nat))] σ') ?_ ?_
    rotate_left
    · intro fin
      refine au ?_
      refine pl_val _ rfl rfl (val_load1 hT rfl rfl rfl (hX1.cell rfl)) ?_
      obtain ⟨qe, hqe⟩ : ∃ q, q = needE op := ⟨_, rfl⟩
      refine pl_op rfl rfl (opTo_call (fst := []) (cap := []) rfl rfl rfl rfl (by decide +kernel) ((has_ret op w1).mono ?_))
      rintro r w3 ⟨hr, hww⟩
      unfold hasV at hr
      rw [← hqe] at hr
      subst hr
      rw [hww]
      unfold eI at hEdef
      rw [← hqe] at hEdef
      cases qe with
      | false =>
        refine auj ?_
        refine rn_seq ?_
        refine rn_plain ?_
        refine auj ?_
        have hE0 : E = [] := by rw [← hEdef]; rfl
        exact fin _ _ ⟨by rw [hE0, List.append_nil]; exact ⟨_, h1⟩, Mf.refl _, rfl, rfl, rfl, trivial⟩
      | true =>
        refine au ?_
        refine pl_val (.agg #[e0, e1, e2, e3]) rfl rfl (val_load [e0, e1, e2, e3] hT rfl rfl rfl (hX1.range rfl)) ?_
        refine pl_op rfl rfl (opTo_call (fst := []) (cap := []) rfl rfl rfl rfl (by decide +kernel) ((mexpr_ret C (szE e + 1) e (by omega) (hp4 hqe.symm) he (⟨_, h1⟩ : Mt w0 w1 b L vv bv) (by omega)).mono ?_))
        rintro r w4 ⟨rfl, h4, ho4⟩
        refine auj ?_
        have hE1 : E = insE vs e := by rw [← hEdef]; rfl
        exact fin _ _ ⟨by rw [hE1]; exact h4, ho4, rfl, rfl, rfl, trivial⟩
    rintro σ' w4 ⟨⟨mv, h4⟩, ho4, hsub⟩
    refine rn_sub hsub ?_
    clear hsub
    have hX4 := ho4.blk hX1 neSM neSI
    have ho04 : Mf w w4 := (Mf.of0 hk1).tr ho4
    refine au ?_
    refine pl_val _ rfl rfl (val_load1 hT rfl rfl rfl (hX4.cell rfl)) ?_
    refine au ?_
    by_cases hop1 : op = 1
    · subst hop1
      refine ye ?_
      refine au ?_
      refine rn_draw (fun w' => Keep [] w4 w') [8] hMix ?_
      have hS : Keep [] w4 w4.drew := (Keep.refl _ _).drew
      generalize w4.drew = w5 at *
      refine tk 0 ?_
      refine tk 1 ?_
      refine tk 2 ?_
      refine tk 3 ?_
      refine tk 4 ?_
      refine dr_val 5 (.int .i64 v) rfl (by decide +kernel) rfl rfl (fun w9 hS9 => val_load1 hT rfl rfl rfl ((hS9.blk hX4 (by simp)).cell rfl)) hS ?_
      refine dr_op 6 rfl (by decide +kernel) rfl rfl (opTo_call (fst := []) (cap := []) rfl rfl rfl rfl (by decide +kernel) ((mcell_ret C (h4.keep0 hS) v).mono ?_))
      rintro r w6 ⟨rfl, hk6⟩
      have hS6 := hS.tr hk6
      refine ⟨fun _ => hS6, ?_⟩
      refine dr_any 7 _ rfl (by decide +kernel) rfl rfl (fun w => val_build _ rfl rfl (built_mi1 9 (cellOf vs v)) w) ?_
      refine dr_op 8 rfl (by decide +kernel) rfl rfl (opTo_call (fst := []) (cap := []) rfl rfl rfl rfl (by decide +kernel) ((madd_ret (⟨mv, h4.keep0 hS6⟩ : Mt w0 w6 b (L ++ E) vv bv) (9, cellOf vs v, 0, 0) (by simp only [List.length_append]; omega)).mono ?_))
      rintro r w7 ⟨rfl, h7, ho7⟩
      refine ⟨fun h => absurd (by simp) h, ?_⟩
      refine dr_done (by decide +kernel) ?_
      refine au ?_
      refine rn_end Tryz.func57 (.inr (.inl ⟨rfl, rfl⟩)) ⟨rfl, ?_, (ho04.tr (Mf.of0 hS6)).tr ho7⟩
      simpa [insS, lastI, fI, needF, hEdef] using h7
    refine nay ?_
    refine au ?_
    by_cases hop2 : op = 2
    · subst hop2
      refine ye ?_
      obtain ⟨hv0, hvl⟩ := hp3 rfl
      refine au ?_
      refine pl_val (.agg #[f0, f1, f2, f3]) rfl rfl (val_load [f0, f1, f2, f3] hT rfl rfl rfl (hX4.range rfl)) ?_
      refine pl_op rfl rfl (opTo_call (fst := []) (cap := []) rfl rfl rfl rfl (by decide +kernel) ((mexpr_ret C (szE f + 1) f (by omega) (hp5 rfl) hf (⟨mv, h4⟩ : Mt w0 w4 b (L ++ E) vv bv) (by simp only [List.length_append]; omega)).mono ?_))
      rintro r w5 ⟨rfl, ⟨mv5, h5⟩, ho5⟩
      have hX5 := ho5.blk hX4 neSM neSI
      have hfl2 := insE_len vs f
      refine au ?_
      refine rn_draw (fun w' => Keep [] w5 w') [12] hMix ?_
      have hS : Keep [] w5 w5.drew := (Keep.refl _ _).drew
      generalize w5.drew = w6 at *
      refine tk 0 ?_
      refine tk 1 ?_
      refine tk 2 ?_
      refine tk 3 ?_
      refine tk 4 ?_
      refine dr_val 5 (.int .i64 v) rfl (by decide +kernel) rfl rfl (fun w9 hS9 => val_load1 hT rfl rfl rfl ((hS9.blk hX5 (by simp)).cell rfl)) hS ?_
      refine tk 7 ?_
      refine tk 8 ?_
      refine dr_val 9 (.int .i64 v) rfl (by decide +kernel) rfl rfl (fun w9 hS9 => val_load1 hT rfl rfl rfl ((hS9.blk hX5 (by simp)).cell rfl)) hS ?_
      refine dr_op 6 rfl (by decide +kernel) rfl rfl (opTo_call (fst := []) (cap := []) rfl rfl rfl rfl (by decide +kernel) ((mcell_ret C (h5.keep0 hS) v).mono ?_))
      rintro r w7 ⟨rfl, hk7⟩
      have hS7 := hS.tr hk7
      refine ⟨fun _ => hS7, ?_⟩
      refine dr_op 10 rfl (by decide +kernel) rfl rfl (opTo_call (fst := []) (cap := []) rfl rfl rfl rfl (by decide +kernel) ((msize_ret C (h5.keep0 hS7) v hv0 hvl).mono ?_))
      rintro r w7' ⟨rfl, hww⟩
      rw [hww]
      refine ⟨fun _ => hS7, ?_⟩
      refine dr_any 11 _ rfl (by decide +kernel) rfl rfl (fun w => val_build _ rfl rfl (built_mi2 10 (cellOf vs v) (sizeV vs v)) w) ?_
      refine dr_op 12 rfl (by decide +kernel) rfl rfl (opTo_call (fst := []) (cap := []) rfl rfl rfl rfl (by decide +kernel) ((madd_ret (⟨mv5, h5.keep0 hS7⟩ : Mt w0 w7 b (L ++ E ++ insE vs f) vv bv) (10, cellOf vs v, sizeV vs v, 0) (by simp only [List.length_append]; omega)).mono ?_))
      rintro r w8 ⟨rfl, h8, ho8⟩
      refine ⟨fun h => absurd (by simp) h, ?_⟩
      refine dr_done (by decide +kernel) ?_
      refine au ?_
      refine rn_end Tryz.func57 (.inr (.inl ⟨rfl, rfl⟩)) ⟨rfl, ?_, ((ho04.tr ho5).tr (Mf.of0 hS7)).tr ho8⟩
      simpa [insS, lastI, fI, needF, hEdef] using h8
    refine nay ?_
    refine au ?_
    by_cases hop3 : op = 3
    · subst hop3
      refine ye ?_
      refine au ?_
      refine pl_val _ rfl rfl (val_build _ rfl rfl (built_mi0 11) w4) ?_
      refine pl_op rfl rfl (opTo_call (fst := []) (cap := []) rfl rfl rfl rfl (by decide +kernel) ((madd_ret (⟨mv, h4⟩ : Mt w0 w4 b (L ++ E) vv bv) (11, 0, 0, 0) (by simp only [List.length_append]; omega)).mono ?_))
      rintro r w5 ⟨rfl, h5, ho5⟩
      refine au ?_
      refine rn_end Tryz.func57 (.inr (.inl ⟨rfl, rfl⟩)) ⟨rfl, ?_, ho04.tr ho5⟩
      simpa [insS, lastI, fI, needF, hEdef] using h5
    refine nay ?_
    refine au ?_
    by_cases hop4 : op = 4
    · subst hop4
      refine ye ?_
      refine au ?_
      refine rn_draw (fun w' => Keep [] w4 w') [8] hMix ?_
      have hS : Keep [] w4 w4.drew := (Keep.refl _ _).drew
      generalize w4.drew = w5 at *
      refine tk 0 ?_
      refine tk 1 ?_
      refine tk 2 ?_
      refine tk 3 ?_
      refine tk 4 ?_
      refine dr_val 5 (.int .i64 v) rfl (by decide +kernel) rfl rfl (fun w9 hS9 => val_load1 hT rfl rfl rfl ((hS9.blk hX4 (by simp)).cell rfl)) hS ?_
      refine dr_op 6 rfl (by decide +kernel) rfl rfl (opTo_call (fst := []) (cap := []) rfl rfl rfl rfl (by decide +kernel) ((mcell_ret C (h4.keep0 hS) v).mono ?_))
      rintro r w6 ⟨rfl, hk6⟩
      have hS6 := hS.tr hk6
      refine ⟨fun _ => hS6, ?_⟩
      refine dr_any 7 _ rfl (by decide +kernel) rfl rfl (fun w => val_build _ rfl rfl (built_mi1 12 (cellOf vs v)) w) ?_
      refine dr_op 8 rfl (by decide +kernel) rfl rfl (opTo_call (fst := []) (cap := []) rfl rfl rfl rfl (by decide +kernel) ((madd_ret (⟨mv, h4.keep0 hS6⟩ : Mt w0 w6 b (L ++ E) vv bv) (12, cellOf vs v, 0, 0) (by simp only [List.length_append]; omega)).mono ?_))
      rintro r w7 ⟨rfl, h7, ho7⟩
      refine ⟨fun h => absurd (by simp) h, ?_⟩
      refine dr_done (by decide +kernel) ?_
      refine au ?_
      refine rn_end Tryz.func57 (.inr (.inl ⟨rfl, rfl⟩)) ⟨rfl, ?_, (ho04.tr (Mf.of0 hS6)).tr ho7⟩
      simpa [insS, lastI, fI, needF, hEdef] using h7
    refine nay ?_
    refine au ?_
    by_cases hop5 : op = 5
    · subst hop5
      refine ye ?_
      refine au ?_
      refine pl_val _ rfl rfl (val_load1 hT rfl rfl rfl (hX4.cell rfl)) ?_
      refine pl_op rfl rfl (opTo_call (fst := []) (cap := []) rfl rfl rfl rfl (by decide +kernel) ((mloop_ret C.hF ihs lb (by omega) hp6 L.length hb (⟨mv, h4⟩ : Mt w0 w4 b (L ++ E) vv bv) (by simp only [List.length_append]; omega)).mono ?_))
      rintro r w5 ⟨rfl, h5, ho5⟩
      refine au ?_
      refine rn_end Tryz.func57 (.inr (.inl ⟨rfl, rfl⟩)) ⟨rfl, ?_, ho04.tr ho5⟩
      have e9 : L ++ insS vs (.mk 5 v e f lb lo) L.length = whT L.length (L ++ E) (insSs vs lb ((L ++ E).length + 1)) := by
        rw [insS, if_pos rfl, hEdef, List.length_append]
        simp [whileI, whT, Nat.add_assoc, Nat.add_comm, Nat.add_left_comm]
      rw [e9]
      exact h5
    refine nay ?_
    refine au ?_
    by_cases hop6 : op = 6
    · subst hop6
      refine ye ?_
      refine au ?_
      refine pl_val _ rfl rfl (val_load1 hT rfl rfl rfl (hX4.cell rfl)) ?_
      refine au ?_
      refine pl_val _ rfl rfl (val_load1 hT rfl rfl rfl (hX4.cell rfl)) ?_
      refine pl_op rfl rfl (opTo_call (fst := []) (cap := []) rfl rfl rfl rfl (by decide +kernel) ((mchoice_ret C.hF ihs lb lo (by omega) hp6 hp7 hb ho (⟨mv, h4⟩ : Mt w0 w4 b (L ++ E) vv bv) (by simp only [List.length_append]; omega)).mono ?_))
      rintro r w5 ⟨rfl, h5, ho5⟩
      refine au ?_
      refine rn_end Tryz.func57 (.inr (.inl ⟨rfl, rfl⟩)) ⟨rfl, ?_, ho04.tr ho5⟩
      have e9 : L ++ insS vs (.mk 6 v e f lb lo) L.length = ifT (L ++ E) (insSs vs lb ((L ++ E).length + 1)) (insSs vs lo ((L ++ E).length + 1 + (insSs vs lb ((L ++ E).length + 1)).length + 1)) := by
        rw [insS, if_neg (by decide), if_pos rfl, hEdef, List.length_append]
        simp [ifI, ifT, Nat.add_assoc, Nat.add_comm, Nat.add_left_comm]
      rw [e9]
      exact h5
    refine nay ?_
    refine au ?_
    have hop7 : op = 7 := by omega
    subst hop7
    refine ye ?_
    refine au ?_
    refine pl_val _ rfl rfl (val_build _ rfl rfl (built_mi0 15) w4) ?_
    refine pl_op rfl rfl (opTo_call (fst := []) (cap := []) rfl rfl rfl rfl (by decide +kernel) ((madd_ret (⟨mv, h4⟩ : Mt w0 w4 b (L ++ E) vv bv) (15, 0, 0, 0) (by simp only [List.length_append]; omega)).mono ?_))
    rintro r w5 ⟨rfl, h5, ho5⟩
    refine au ?_
    refine rn_end Tryz.func57 (.inr (.inl ⟨rfl, rfl⟩)) ⟨rfl, ?_, ho04.tr ho5⟩
    simpa [insS, lastI, fI, needF, hEdef] using h5

theorem built_mk (av ab : Option Addr) (n1 n2 c1 c2 : Nat) : Tryz.prog.built tMk [(1, .agg #[.slice av n1 c1, .slice ab n2 c2])] = some [Value.slice none 0 0, .slice av n1 c1, .slice ab n2 c2].toArray := by kernel_rfl
theorem mkC : MkC := ⟨by
  intro F w x vs body hp hF hvl hsz
  have hp' := hp
  obtain ⟨vv, bv, rfl, hv, hb⟩ := hp'
  obtain ⟨av, capv, rfl⟩ := hv.form
  obtain ⟨ab, capb, rfl⟩ := hb.form
  refine ret_of 28 Tryz.func19 rfl rfl (by simp) ?_
  refine au ?_
  refine pl_op rfl rfl (opTo_boxN [.slice av vs.length capv, .slice ab body.length capb] rfl rfl rfl ?_)
  intro w1 x1 hx1 hs1 hk1 hX1
  refine au ?_
  refine pl_val (.agg #[.slice av vs.length capv, .slice ab body.length capb]) rfl rfl (val_load [.slice av vs.length capv, .slice ab body.length capb] hT rfl rfl rfl (hX1.range (by rfl))) ?_
  refine pl_op rfl rfl (opTo_call (fst := []) (cap := []) rfl rfl rfl rfl (by decide +kernel) ((check_ret (hp.keep hk1 hF.stays) (hF.keep hk1) hsz).mono ?_))
  rintro r w2 ⟨rfl, hk2⟩
  refine au ?_
  by_cases hc : progFault vs body = 0
  · refine nay ?_
    obtain ⟨hS1, hS2, hS3, _⟩ := prog_fit hc
    have hX2 := hk2.blk hX1 (by simp)
    refine au ?_
    refine pl_val (.agg #[.slice av vs.length capv, .slice ab body.length capb]) rfl rfl (val_load [.slice av vs.length capv, .slice ab body.length capb] hT rfl rfl rfl (hX2.range (by rfl))) ?_
    refine pl_val _ rfl rfl (val_build _ rfl rfl (built_mk av ab vs.length body.length capv capb) w2) ?_
    refine pl_op rfl rfl (opTo_boxN [.slice none 0 0, .slice av vs.length capv, .slice ab body.length capb] rfl rfl rfl ?_)
    intro w3 b hb3 hs3 hk3 hbk
    have hk03 := (hk1.tr hk2).tr hk3
    have C : CxK vs body F w (.slice av vs.length capv) (.slice ab body.length capb) := ⟨hp, hF, hS1⟩
    have h3 : Mt w w3 b [] (.slice av vs.length capv) (.slice ab body.length capb) := ⟨_, hk03, by have := (hk1.tr hk2).size; omega, hbk, RowI.nil _ _ _⟩
    refine au ?_
    refine pl_val _ rfl rfl (val_load1 hT rfl rfl rfl ((hk3.blk hX2 (by simp)).cell rfl)) ?_
    refine pl_op rfl rfl (opTo_call (fst := []) (cap := []) rfl rfl rfl rfl (by decide +kernel) ((mstmtsT (L' := insSs vs body 0) C.hF (mstmt_ret C (szSs body + 1)) body (by omega) hS3 0 hb h3 (by simp; omega) rfl rfl).mono ?_))
    rintro r w4 ⟨rfl, h4, ho4⟩
    have hl4 := insSs_len vs body 0
    refine au ?_
    refine pl_val _ rfl rfl (val_build _ rfl rfl (built_mi0 16) w4) ?_
    refine pl_op rfl rfl (opTo_call (fst := []) (cap := []) rfl rfl rfl rfl (by decide +kernel) ((madd_ret h4 haltI (by omega)).mono ?_))
    rintro r w5 ⟨rfl, ⟨mv, h5⟩, ho5⟩
    refine au ?_
    refine pl_val _ rfl rfl (val_load1 hT rfl rfl rfl (h5.bk.cell rfl)) ?_
    refine au ?_
    refine rn_ret Tryz.func19 (.inr (.inr (.inr (.inr ⟨_, _, _, _, rfl, rfl, rfl, rfl⟩)))) ⟨⟨mv, by rw [hc], ?_⟩, h5.kp⟩
    unfold makeOf
    rw [if_pos hc]
    exact h5.row.ins
  · refine ye ?_
    refine au ?_
    refine rn_ret Tryz.func19 (.inr (.inr (.inr (.inr ⟨_, _, _, _, rfl, rfl, rfl, rfl⟩)))) ⟨⟨_, rfl, ?_⟩, hk1.tr hk2⟩
    unfold makeOf
    rw [if_neg hc]
    exact InsV.nil⟩
end E
end Go.Proofs.YtmplkogkphmmjagGreat

/- The landed life: New, Now. -/
namespace Go.Proofs.YtmplkogkphmmjagGreat
set_option maxRecDepth 20000
set_option maxHeartbeats 4000000
namespace E
open Go.Proofs

theorem built_pn0 : Tryz.prog.built tPr [] = some pz0.toArray := by kernel_rfl
theorem built_lf (d q : Nat) (a b : Option Addr) (n c m e : Nat) (k : Int) : Tryz.prog.built tLf [(1, .pointer (some ⟨d, 0, none⟩)), (2, .slice a n c), (3, .slice b m e), (4, .pointer (some ⟨q, 0, none⟩)), (5, .int .i64 k)] = some [Value.pointer none, .pointer (some ⟨d, 0, none⟩), .slice a n c, .slice b m e, .pointer (some ⟨q, 0, none⟩), .int .i64 k].toArray := by kernel_rfl

theorem InvZ.cells {vs : List VarT} {body : List ST} {inp : List Int} {z : Lz} {i : Nat} (h : InvZ vs body inp z i) (hpf : progFault vs body = 0) (hsz : szSs body ≤ 1000) : (sumV vs).toNat = z.lf.m.cells.length := by
  obtain ⟨_, g, hg, hI⟩ := h
  obtain ⟨c, hc, h48, hP⟩ := prog_prg hpf hsz
  have hcc : c = (sumV vs).toNat := by omega
  subst hcc
  have h1 : (z.lf.m.cells.length : Int) = (sumV vs).toNat := (InvL.fit hI hP).1.cells
  omega
theorem InvZ.stat {vs : List VarT} {body : List ST} {inp : List Int} {z : Lz} {i : Nat} (h : InvZ vs body inp z i) (hpf : progFault vs body = 0) (hsz : szSs body ≤ 1000) : z.lf.m.state ≤ 14 := by
  obtain ⟨_, g, hg, hI⟩ := h
  obtain ⟨c, hc, h48, hP⟩ := prog_prg hpf hsz
  have hcc : c = (sumV vs).toNat := by omega
  subst hcc
  exact (InvL.fit hI hP).2.2.2.1
section
variable {vs : List VarT} {body : List ST} {inp : List Int} {B : Nat} {w w' : World} {x y d q i : Nat} {fp fm fm' rd : List Nat} {cv iv : Value} {z z' : Lz}
theorem lifeNow_ret (h : LV vs body inp B w y fp z) (hz : InvZ vs body inp z i) (hi : i ≤ 300000) (hpf : progFault vs body = 0) (hsz : szSs body ≤ 1000) :
    Ret Tryz.prog 11 [.pointer (some ⟨y, 0, none⟩)] w fun r w' => (∃ ov cv, r = .agg (resC (codeB z.lf.m z.lf.p) ov cv).toArray ∧ LsC w' ov z.lf.p.1 ∧ LsV w' cv z.lf.m.cells ∧ Nw w ov ∧ Nw w cv) ∧ Keep [] w w' := by
  obtain ⟨b1, b2, b3⟩ := hz.bnd hpf hsz
  have b4 := hz.stat hpf hsz
  have b5 := hz.cells hpf hsz
  refine ret_of 12 Tryz.func11 rfl rfl (by simp) ?_
  refine au ?_
  refine pl_op rfl rfl (opTo_allocN _ rfl zero_re ?_)
  intro w1 x2 hx2 hs1 hk1 hb1
  have h1 := h.keep hk1 (fun k hk => by cases hk)
  obtain ⟨x, d, q, cv, iv, rd, fm, rfl, l1, l2, l3⟩ := h1
  refine au ?_
  refine rn_draw (fun w' => Keep [] w1 w') [9] hMix ?_
  have hS : Keep [] w1 w1.drew := (Keep.refl _ _).drew
  generalize w1.drew = w2 at *
  refine tk 0 ?_
  refine tk 1 ?_
  refine tk 2 ?_
  refine dr_val 3 (.pointer (some ⟨x, 0, none⟩)) rfl (by decide +kernel) rfl rfl (fun w9 hS9 => val_load1 hT rfl rfl rfl ((l1.keep0 hS9).blk.cell rfl)) hS ?_
  refine tk 4 ?_
  refine tk 5 ?_
  refine tk 6 ?_
  refine dr_val 7 (.int .i64 ((sumV vs).toNat : Nat)) rfl (by decide +kernel) rfl rfl (fun w9 hS9 => val_load1 hT rfl rfl rfl ((l1.keep0 hS9).blk.cell rfl)) hS ?_
  refine dr_op 8 rfl (by decide +kernel) rfl rfl (opTo_call (fst := []) (cap := []) rfl rfl rfl rfl (by decide +kernel) (((l2.keep0 hS).result b3 (by omega) (by omega) b2 b5).mono ?_))
  rintro r w3 ⟨⟨ov, cv, rfl, ho, hc, no, nc⟩, hk3⟩
  have hS3 := hS.tr hk3
  refine ⟨fun _ => hS3, ?_⟩
  have hb3 := hS3.blk hb1 (by simp)
  obtain ⟨oa, ok, rfl⟩ := ho.1.form
  obtain ⟨ca, ck, rfl⟩ := hc.form
  refine dr_op 9 rfl (by decide +kernel) rfl rfl (opTo_storeN (resC (codeB z.lf.m z.lf.p) (.slice oa z.lf.p.1.length ok) (.slice ca z.lf.m.cells.length ck)) rfl rfl rfl rfl size_re hb3 (by simp [resC]) (resC_one _ _ _ _ _ _ _) ?_)
  intro w4 hs4 hk4 hb4
  rw [splice_whole (by rfl)] at hb4
  refine ⟨fun h => absurd (by simp) h, ?_⟩
  refine dr_done (by decide +kernel) ?_
  have s2 := hS.size
  have hlow : w.heap.size ≤ w2.heap.size := by omega
  refine au ?_
  refine rn_ret Tryz.func11 (.inr (.inr (.inl ⟨_, _, _, rfl, rfl, blk_loadVar hT hb4 rfl⟩))) ⟨⟨_, _, rfl, ⟨ho.1.keepN hk4 (no.notOld (by omega)), ho.2⟩, hc.keepN hk4 (nc.notOld (by omega)), no.low hlow, nc.low hlow⟩, (hk1.tr hS3).trB hk4 (by omega)⟩
end

theorem lifeNew_ret {F : Nat → Prop} {w : World} {x iv : Value} {vs : List VarT} {body : List ST} {inp : List Int} (hp : ProgV F w x vs body) (hF : In F w) (hi : LsC w iv inp) (hvl : vs.length ≤ 100000) (hsz : szSs body ≤ 1000) (hil : inp.length ≤ 100000) :
    Ret Tryz.prog 8 [x, iv] w fun r w' => (∃ pv, r = .tuple #[pv, .int .i64 (newF vs body inp)] ∧ (newF vs body inp = 0 → ∃ y fp, pv = .pointer (some ⟨y, 0, none⟩) ∧ LV vs body inp w.heap.size w' y fp (lz0 (sumV vs).toNat))) ∧ Keep [] w w' := by
  have hp0 := hp
  obtain ⟨vv, bv, rfl, hv, hb⟩ := hp
  obtain ⟨av, capv, rfl⟩ := hv.form
  obtain ⟨ab, capb, rfl⟩ := hb.form
  have hi0 := hi.1
  obtain ⟨ia, icap, rfl, hir⟩ := hi0
  refine ret_of 33 Tryz.func8 rfl rfl (by simp) ?_
  refine au ?_
  refine pl_op rfl rfl (opTo_boxN [.slice av vs.length capv, .slice ab body.length capb] rfl rfl rfl ?_)
  intro w1 x2 hx2 hs1 hk1 hX1
  refine au ?_
  refine pl_val (.agg #[.slice av vs.length capv, .slice ab body.length capb]) rfl rfl (val_load [.slice av vs.length capv, .slice ab body.length capb] hT rfl rfl rfl (hX1.range (by rfl))) ?_
  refine pl_op rfl rfl (opTo_call (fst := []) (cap := []) rfl rfl rfl rfl (by decide +kernel) ((mkC.make (hp0.keep hk1 hF.stays) (hF.keep hk1) (by omega) (by omega)).mono ?_))
  rintro r w2 ⟨⟨cv, rfl, hI⟩, hk2⟩
  obtain ⟨ca, ccap, hcv⟩ := hI.form
  subst hcv
  have hk02 := hk1.tr hk2
  have hX2 := hk2.blk hX1 (by simp)
  refine au ?_
  by_cases hpf : ¬ progFault vs body = 0
  · have hn : newF vs body inp = progFault vs body := by
      unfold newF
      rw [if_neg hpf]
    refine ye ?_
    refine au ?_
    rw [hn]
    exact rn_ret Tryz.func8 (.inr (.inr (.inr (.inr ⟨_, _, _, _, rfl, rfl, rfl, rfl⟩)))) ⟨⟨_, rfl, fun h => absurd h hpf⟩, hk02⟩
  replace hpf : progFault vs body = 0 := by omega
  rw [hpf]
  refine nay ?_
  refine au ?_
  by_cases hl : ¬ inp.length ≤ 40
  · have hn : newF vs body inp = 1 := by
      unfold newF
      rw [if_pos hpf, if_neg hl]
    refine ye ?_
    refine au ?_
    rw [hn]
    exact rn_ret Tryz.func8 (.inr (.inr (.inr (.inr ⟨_, _, _, _, rfl, rfl, rfl, rfl⟩)))) ⟨⟨_, rfl, fun h => absurd h (by decide)⟩, hk02⟩
  replace hl : inp.length ≤ 40 := by omega
  have hn : newF vs body inp = 0 := by
    unfold newF
    rw [if_pos hpf, if_pos hl]
  have hmk : makeOf vs body = insP vs body := by
    unfold makeOf
    rw [if_pos hpf]
  obtain ⟨hszd, _, _, hs0, hs48⟩ := prog_fit hpf
  have hce : cellOf vs (vs.length : Nat) = (((sumV vs).toNat : Nat) : Int) := by
    unfold cellOf
    rw [Int.toNat_natCast, List.take_length]
    omega
  refine nay ?_
  refine au ?_
  rw [hmk] at hI
  rw [hmk]
  obtain ⟨rb, hrb, hI2⟩ := hI.own
  refine rn_draw (fun w' => Keep [] w2 w') [] hMix ?_
  have hS : Keep [] w2 w2.drew := (Keep.refl _ _).drew
  generalize w2.drew = w3 at *
  refine tk 1 ?_
  refine tk 2 ?_
  refine dr_any 4 _ rfl (by decide +kernel) rfl rfl (fun w => val_build _ rfl rfl built_pn0 w) ?_
  refine dr_val 6 (.agg #[.slice av vs.length capv, .slice ab body.length capb]) rfl (by decide +kernel) rfl rfl (fun w9 hS9 => val_load [.slice av vs.length capv, .slice ab body.length capb] hT rfl rfl rfl ((hS9.blk hX2 (by simp)).range (by rfl))) hS ?_
  have clone : ∀ {w4 : World}, Keep [] w2 w4 → Ret Tryz.prog 21 [.slice ia inp.length icap] w4 fun r w' => RowL w' w2.heap.size r inp ∧ Keep [] w4 w' := fun {w4} hk => by
    refine (cloneL_ret (hi.1.keep0 (hk02.tr hk)) (by omega)).mono ?_
    rintro r w' ⟨hr, hk'⟩
    exact ⟨hr.low hk.size, hk'⟩
  have cells : ∀ {w4 : World}, Keep [] w2 w4 → Ret Tryz.prog 22 [.agg #[.slice av vs.length capv, .slice ab body.length capb]] w4 fun r w' => r = .int .i64 (((sumV vs).toNat : Nat) : Int) ∧ Keep [] w4 w' := fun {w4} hk => by
    rw [← hce]
    exact cells_ret (hp0.keep (hk02.tr hk) hF.stays) (hF.keep (hk02.tr hk)) hszd
  refine dr_with 3 255 (fun σ' w' => ∃ d q B0 ia' ik', DiskV B0 w' d (List.replicate 272 0) [] (.slice none 0 0) ∧ w2.heap.size ≤ B0 ∧ Blk w' q pz0 tPr ∧ w2.heap.size ≤ q ∧ RowL w' w2.heap.size (.slice ia' inp.length ik') inp ∧ Keep [] w2 w' ∧
    Sub [(20, .pointer (some ⟨d, 0, none⟩)), (21, .slice ca (insP vs body).length ccap), (23, .slice ia' inp.length ik'), (25, .pointer (some ⟨q, 0, none⟩)), (27, .int .i64 (((sumV vs).toNat : Nat) : Int))] σ') ?_ ?_
  · rintro σ' w4 ⟨d, q, B0, ia', ik', hd, hB0, hq, hqB, hrow, hS4, hsub⟩
    refine dr_sub hsub ?_
    refine dr_any 8 _ rfl (by decide +kernel) rfl rfl (fun w => val_build _ rfl rfl (built_lf d q ca ia' (insP vs body).length ccap inp.length ik' (((sumV vs).toNat : Nat) : Int)) w) ?_
    refine dr_op 9 rfl (by decide +kernel) rfl rfl (opTo_boxN (lfC (.pointer none) d q (.slice ca (insP vs body).length ccap) (.slice ia' inp.length ik') (sumV vs).toNat) rfl rfl rfl ?_)
    intro w5 y hy hs5 hk5 hY5
    have hS5 := hS4.tr hk5
    refine ⟨fun _ => hS5, ?_⟩
    refine tk 10 ?_
    refine dr_done (by decide +kernel) ?_
    refine au ?_
    have hlow2 := hk02.size
    have h12 := hk1.size
    have s45 := hS4.size
    have hdl := hd.blk.lt
    have hdb := hd.base
    have hql := hq.lt
    have hnd : d ∉ rb ++ obs (.slice ia' inp.length ik') := fun hm => by
      rcases List.mem_append.1 hm with hm | hm
      · have := (hrb d hm).2
        omega
      · exact hrow.ne hd.blk (by decide) d hm (by simp)
    have hnq : q ∉ rb ++ obs (.slice ia' inp.length ik') := fun hm => by
      rcases List.mem_append.1 hm with hm | hm
      · have := (hrb q hm).2
        omega
      · exact hrow.ne hq (by decide) q hm (by simp)
    have hny : y ∉ rb ++ obs (.slice ia' inp.length ik') := fun hm => by
      rcases List.mem_append.1 hm with hm | hm
      · have := (hrb y hm).2
        omega
      · have := (hrow.lt y hm).2
        omega
    have hro : ∀ k ∈ rb ++ obs (.slice ia' inp.length ik'), w.heap.size ≤ k ∧ k < w5.heap.size := fun k hk => by
      rcases List.mem_append.1 hk with hm | hm
      · have := hrb k hm
        exact ⟨by omega, by omega⟩
      · have := hrow.lt k hm
        exact ⟨by omega, by omega⟩
    have hlk : Lfk (rb ++ obs (.slice ia' inp.length ik')) w.heap.size w5 y (.pointer none) d q (.slice ca (insP vs body).length ccap) (.slice ia' inp.length ik') (insP vs body) inp (sumV vs).toNat := by
      refine ⟨hY5, ?_, ?_, by omega, hro, hny, hl⟩
      · obtain ⟨a, cap, e, h2⟩ := hI2.keep hS5 (fun c hR => ⟨(hrb c hR).2, by simp⟩)
        refine ⟨a, cap, e, fun h0 => ?_⟩
        obtain ⟨b, o, e1, hR, hr⟩ := h2 h0
        exact ⟨b, o, e1, List.mem_append.2 (.inl hR), hr⟩
      · obtain ⟨a, cap, e, h2⟩ := (hrow.keep hk5 (fun k _ => by simp)).lies
        refine ⟨a, cap, e, fun h0 => ?_⟩
        obtain ⟨b, o, e1, hb, hr⟩ := h2 h0
        refine ⟨b, o, e1, List.mem_append.2 (.inr ?_), hr⟩
        injection e with e2 e3 e4
        rw [e2, e1]
        simp [obs, Value.ownBlock]
    have hdk : Dk (· ∈ rb ++ obs (.slice ia' inp.length ik')) w.heap.size w5 d q (.slice none 0 0) ([], false) (List.replicate 112 0) 0 :=
      Dk.first (hd.keep hk5 (fun _ _ => by simp)) (by omega) (hk5.blk hq (by simp)) ⟨by omega, hnq⟩ hnd fun k hk => (hro k hk).2
    refine pl_op rfl rfl (opTo_call (fst := []) (cap := []) rfl rfl rfl rfl (by decide +kernel) ((wake_ret (mm := mind0 (sumV vs).toNat) (W := List.replicate 112 0) (k := mind0 (sumV vs).toNat) hlk rfl hdk (fun hm => by
      simp [obs, Value.ownBlock] at hm
      omega) (enc0 _ (by omega)) (by simp [mind0]; omega) (by simp) (by omega)).mono ?_))
    rintro r w6 ⟨rfl, fp', h6, hk6, _⟩
    refine au ?_
    rw [hn]
    exact rn_ret Tryz.func8 (.inr (.inr (.inr (.inr ⟨_, _, _, _, rfl, rfl, rfl, rfl⟩)))) ⟨⟨_, rfl, fun _ => ⟨y, fp', rfl, h6⟩⟩, (hk02.tr hS5).trB hk6 (by omega)⟩
  intro fin
  have hs23 := hS.size
  refine dr_op2 0 5 rfl rfl (by decide +kernel) rfl rfl rfl rfl ?_ ?_
  · refine opTo_call (fst := []) (cap := []) rfl rfl rfl rfl (by decide +kernel) ((new_ret w3).mono ?_)
    rintro r w4 ⟨rfl, hd4, hk4⟩
    have hS4 := hS.tr hk4
    have z4 := hS4.size
    refine ⟨fun _ => hS4, ?_⟩
    refine dr_op2 3 5 rfl rfl (by decide +kernel) rfl rfl rfl rfl ?_ ?_
    · refine opTo_call (fst := []) (cap := []) rfl rfl rfl rfl (by decide +kernel) ((clone hS4).mono ?_)
      rintro r w5 ⟨hr5, hk5⟩
      obtain ⟨ia', ik', rfl⟩ := hr5.form
      have hS5 := hS4.tr hk5
      have z5 := hS5.size
      refine ⟨fun _ => hS5, ?_⟩
      have hd5 := hd4.keep hk5 (fun _ _ => by simp)
      refine dr_op2 5 7 rfl rfl (by decide +kernel) rfl rfl rfl rfl ?_ ?_
      · refine opTo_boxN pz0 rfl rfl rfl ?_
        intro w6 q hq hs6 hk6 hb6
        have hS6 := hS5.tr hk6
        refine ⟨fun _ => hS6, ?_⟩
        refine dr_op 7 rfl (by decide +kernel) rfl rfl (opTo_call (fst := []) (cap := []) rfl rfl rfl rfl (by decide +kernel) ((cells hS6).mono ?_))
        rintro r w7 ⟨rfl, hk7⟩
        refine ⟨fun _ => hS6.tr hk7, ?_⟩
        exact fin _ _ ⟨_, q, _, ia', ik', (hd5.keep hk6 (fun _ _ => by simp)).keep hk7 (fun _ _ => by simp), by omega, hk7.blk hb6 (by simp), by omega, (hr5.keep hk6 (fun k _ => by simp)).keep hk7 (fun k _ => by simp), hS6.tr hk7, rfl, rfl, rfl, rfl, rfl, trivial⟩
      · refine opTo_call (fst := []) (cap := []) rfl rfl rfl rfl (by decide +kernel) ((cells hS5).mono ?_)
        rintro r w6 ⟨rfl, hk6⟩
        have hS6 := hS5.tr hk6
        have z6 := hS6.size
        refine ⟨fun _ => hS6, ?_⟩
        refine dr_op 5 rfl (by decide +kernel) rfl rfl (opTo_boxN pz0 rfl rfl rfl ?_)
        intro w7 q hq hs7 hk7 hb7
        refine ⟨fun _ => hS6.tr hk7, ?_⟩
        exact fin _ _ ⟨_, q, _, ia', ik', (hd5.keep hk6 (fun _ _ => by simp)).keep hk7 (fun _ _ => by simp), by omega, hb7, by omega, (hr5.keep hk6 (fun k _ => by simp)).keep hk7 (fun k _ => by simp), hS6.tr hk7, rfl, rfl, rfl, rfl, rfl, trivial⟩
    · refine opTo_boxN pz0 rfl rfl rfl ?_
      intro w5 q hq hs5 hk5 hb5
      have hS5 := hS4.tr hk5
      refine ⟨fun _ => hS5, ?_⟩
      refine dr_op 3 rfl (by decide +kernel) rfl rfl (opTo_call (fst := []) (cap := []) rfl rfl rfl rfl (by decide +kernel) ((clone hS5).mono ?_))
      rintro r w6 ⟨hr6, hk6⟩
      obtain ⟨ia', ik', rfl⟩ := hr6.form
      have hS6 := hS5.tr hk6
      refine ⟨fun _ => hS6, ?_⟩
      refine dr_op 7 rfl (by decide +kernel) rfl rfl (opTo_call (fst := []) (cap := []) rfl rfl rfl rfl (by decide +kernel) ((cells hS6).mono ?_))
      rintro r w7 ⟨rfl, hk7⟩
      refine ⟨fun _ => hS6.tr hk7, ?_⟩
      exact fin _ _ ⟨_, q, _, ia', ik', ((hd4.keep hk5 (fun _ _ => by simp)).keep hk6 (fun _ _ => by simp)).keep hk7 (fun _ _ => by simp), by omega, hk7.blk (hk6.blk hb5 (by simp)) (by simp), by omega, hr6.keep hk7 (fun k _ => by simp), hS6.tr hk7, rfl, rfl, rfl, rfl, rfl, trivial⟩
  · refine opTo_boxN pz0 rfl rfl rfl ?_
    intro w4 q hq hs4 hk4 hb4
    have hS4 := hS.tr hk4
    have z4 := hS4.size
    refine ⟨fun _ => hS4, ?_⟩
    refine dr_op 0 rfl (by decide +kernel) rfl rfl (opTo_call (fst := []) (cap := []) rfl rfl rfl rfl (by decide +kernel) ((new_ret w4).mono ?_))
    rintro r w5 ⟨rfl, hd5, hk5⟩
    have hS5 := hS4.tr hk5
    refine ⟨fun _ => hS5, ?_⟩
    refine dr_op 3 rfl (by decide +kernel) rfl rfl (opTo_call (fst := []) (cap := []) rfl rfl rfl rfl (by decide +kernel) ((clone hS5).mono ?_))
    rintro r w6 ⟨hr6, hk6⟩
    obtain ⟨ia', ik', rfl⟩ := hr6.form
    have hS6 := hS5.tr hk6
    refine ⟨fun _ => hS6, ?_⟩
    refine dr_op 7 rfl (by decide +kernel) rfl rfl (opTo_call (fst := []) (cap := []) rfl rfl rfl rfl (by decide +kernel) ((cells hS6).mono ?_))
    rintro r w7 ⟨rfl, hk7⟩
    refine ⟨fun _ => hS6.tr hk7, ?_⟩
    exact fin _ _ ⟨_, q, _, ia', ik', (hd5.keep hk6 (fun _ _ => by simp)).keep hk7 (fun _ _ => by simp), by omega, hk7.blk (hk6.blk (hk5.blk hb4 (by simp)) (by simp)) (by simp), by omega, hr6.keep hk7 (fun k _ => by simp), hS6.tr hk7, rfl, rfl, rfl, rfl, rfl, trivial⟩
end E
end Go.Proofs.YtmplkogkphmmjagGreat

/- slices.Grow and slices.Concat of steps. -/
namespace Go.Proofs.YtmplkogkphmmjagGreat
set_option maxRecDepth 20000
set_option maxHeartbeats 4000000
namespace E
open Go.Proofs

abbrev tSt : Nat := 37
theorem app_st : appOk Tryz.prog 27 tSt 4 32 = true := by decide +kernel
theorem int_st : Tryz.prog.underlying 3 = some (.int .i64) := by kernel_rfl
section
variable {P : Program} {T : Tbl} {n : Nat} {σ : Env} {o : Oper} {w : World} {v : Value} {K : Value → World → Prop}
theorem val_cap {t : TypeId} {x : Operand} {a : Option Addr} {len cap sz : Nat} (hT : T.check P = true) (ho : o.op = .call { callee := .builtin .cap, args := #[x], argTypes := #[t] }) (hx : ev σ x = some (.slice a len cap)) (ht : find T.sl t = some sz) (w : World) : Val P n σ o w (.int .i64 cap) := by
  intro ac ha
  have hs := Tbl.sl_ok hT ht
  unfold slOk at hs
  split at hs
  · rename_i e hu
    simp [execOp, ho, resolve, invoke, builtin, ha.eval hx, Builtin.cap_, run_underlying hu, goInt]
  · cases hs
/-- append(nil, make(.., m)...), cut to nothing. -/
theorem opTo_appN {t tn : TypeId} {s x : Operand} (e size bytes m : Nat) (ho : o.op = .call { callee := .builtin .append, args := #[s, x], argTypes := #[t, tn] }) (hs : ev σ s = some (.slice none 0 0)) (hx : ev σ x = some (.int .i64 (m : Nat)))
    (hP : appOk P t e size bytes = true) (hn : P.underlying tn = some (.int .i64)) (h0 : 0 < m) (hsz : 0 < size) (h63 : m ≤ 1000000) (hb : m * bytes ≤ 281474976710656)
    (hK : ∀ g cap w', g = w.heap.size → m ≤ cap → Own w' w.heap.size e size (.slice (some ⟨g, 0, none⟩) 0 cap) 0 [] → Keep [] w w' → K (.slice (some ⟨g, 0, none⟩) m cap) w') : OpTo P n σ o w K := by
  obtain ⟨i, z, hu, hi, hz, hsize, hby, hzs⟩ := appOk_run hP
  subst hsize
  subst hby
  have hr := Go.Lib.run_append_nil_zeros (P := P) w t tn o.type e i z .i64 .i64 hu hn hi hz m h0 hsz (by omega) hb
  have hrun : ∀ a, Fr n σ a → (execOp a.eval o).run P w = .ok (.value (.slice (some ⟨w.heap.size, 0, none⟩) m (grownCap w m 0 e))) (w.drew.alloc (.cells (Builtin.zeroCells z.cells m ++ Builtin.zeroCells z.cells (grownCap w m 0 e - m)) e)) := fun a ha => by simp [execOp, ho, resolve, invoke, builtin, ha.eval hs, ha.eval hx, hr]
  refine opTo_run hrun (hK _ _ _ rfl (grownCap_ge _ _ _ _) ⟨by simp, .inr ⟨w.heap.size, _, (Builtin.zeroCells z.cells m ++ Builtin.zeroCells z.cells (grownCap w m 0 e - m)).toList, rfl, Nat.le_refl _, ?_, Nat.zero_le _, ?_, by simp⟩⟩ (((Keep.refl _ _).drew).alloc _))
  · have := Blk.new w.drew (Builtin.zeroCells z.cells m ++ Builtin.zeroCells z.cells (grownCap w m 0 e - m)).toList e
    rwa [Array.toArray_toList] at this
  · have hge := grownCap_ge w m 0 e
    rw [Array.length_toList, Array.size_append, size_zeroCells, size_zeroCells, hzs, ← Nat.add_mul, Nat.add_sub_cancel' hge]
    exact Nat.le_refl _
end
theorem growSt_ret (m : Nat) (w : World) (h0 : 0 < m) (hm : m ≤ 1000000) : Ret Tryz.prog 52 [.slice none 0 0, .int .i64 (m : Nat)] w fun r w' => Own w' w.heap.size tSt 4 r 0 [] ∧ Keep [] w w' := by
  refine ret_of 27 Tryz.func52 rfl rfl (by simp) ?_
  refine au ?_
  refine nay ?_
  refine au ?_
  refine pl_val _ rfl rfl (val_cap hT rfl rfl rfl w) ?_
  refine au ?_
  refine pl_num ((0 : Int)) rfl rfl rfl rfl rfl (by simp only [ariP]; omega) ?_
  refine pl_num ((m : Int)) rfl rfl rfl rfl rfl (by simp only [ariP]; omega) ?_
  refine au ?_
  refine ye ?_
  refine au ?_
  refine pl_val _ rfl rfl (val_cap hT rfl rfl rfl w) ?_
  refine pl_val _ rfl rfl (val_sliceTo 0 hT rfl rfl rfl rfl rfl (by omega) w) ?_
  refine au ?_
  refine pl_op rfl rfl (opTo_appN tSt 4 32 m rfl rfl rfl app_st int_st h0 (by decide) hm (by omega) ?_)
  intro g cap w1 hg hcap hown hk
  refine au ?_
  refine pl_val _ rfl rfl (val_sliceTo 0 hT rfl rfl rfl rfl rfl (by omega) w1) ?_
  refine au ?_
  exact rn_ret Tryz.func52 (.inl ⟨_, rfl, rfl⟩) ⟨hown, hk⟩

theorem flatSp_length (l : List Sp) : (l.flatMap spC).length = l.length * 4 := by
  induction l with
  | nil => rfl
  | cons s r ih => rw [List.flatMap_cons, List.length_append, ih, spC_length, List.length_cons]; omega
theorem flatSp_one (l : List Sp) : ∀ u ∈ l.flatMap spC, u.oneCell' = true := fun u hu => by
  obtain ⟨s, _, h⟩ := List.mem_flatMap.1 hu
  exact spC_one s u h
/-- Steps behind steps. -/
theorem opTo_appSp {n : Nat} {σ : Env} {o : Oper} {w : World} {v lv : Value} {K : Value → World → Prop} {s x : Operand} {ln : Nat} {xs : List Value} {l : List Sp} (B : Nat) (ho : o.op = .call { callee := .builtin .append, args := #[s, x], argTypes := #[27, 27] }) (hs : ev σ s = some v) (hx : ev σ x = some lv)
    (hown : Own w B tSt 4 v ln xs) (hl : SpV w lv l) (hb : ln + l.length ≤ 1000000) (hB : B ≤ w.heap.size)
    (hK : ∀ v' w' fp2, Own w' B tSt 4 v' (ln + l.length) (xs ++ l.flatMap spC) → (∀ k ∈ fp2, B ≤ k) → Keep fp2 w w' → K v' w') : OpTo Tryz.prog n σ o w K := by
  obtain ⟨a, cap, rfl, h2⟩ := hl
  by_cases h0 : 0 < l.length
  · obtain ⟨b, q, rfl, hbl, hr⟩ := h2 h0
    refine opTo_app B tSt 4 32 xs (l.flatMap spC) ho hs hx app_st hown hr (by rw [flatSp_length]) (flatSp_one l) h0 (by unfold maxLen; omega) (by omega) hB ?_
    intro g2 c2 w2 hown2 hcase
    rcases hcase with ⟨h3, _, h5⟩ | ⟨_, h4, _⟩
    · exact hK _ _ [g2] hown2 (fun k hk => by rw [List.mem_singleton.1 hk]; exact (hown.lt g2 h3).1) h5
    · exact hK _ _ [] hown2 (fun k hk => by cases hk) h4
  · have h0 : l = [] := List.eq_nil_of_length_eq_zero (by omega)
    subst h0
    exact opTo_appZ (ln := ln) ho hs hx app_st hown (hK _ _ [] (by simpa using hown) (fun k hk => by cases hk) (Keep.refl _ _))

theorem concatSp_ret {w : World} {g : Nat} {lv sv : Value} {l l2 : List Sp} (hg : Blk w g [lv, sv] 27) (hl : SpV w lv l) (hs : SpV w sv l2) (h2 : 0 < l2.length) (hb : l.length + l2.length ≤ 1000000) :
    Ret Tryz.prog 33 [.slice (some ⟨g, 0, none⟩) 2 2] w fun r w' => Own w' w.heap.size tSt 4 r (l.length + l2.length) (l.flatMap spC ++ l2.flatMap spC) ∧ Keep [] w w' := by
  obtain ⟨la, lc, rfl⟩ := hl.form
  obtain ⟨sa, sc, rfl⟩ := hs.form
  refine ret_of 36 Tryz.func33 rfl rfl (by simp) ?_
  refine au ?_
  refine rn_ind (fun t σ w' => ∃ (j m : Nat), j ≤ 2 ∧ t = 2 - j ∧ w' = w ∧ m = (if j = 0 then 0 else if j = 1 then l.length else l.length + l2.length) ∧ σ = [(0, .slice (some ⟨g, 0, none⟩) 2 2), (3, .int .i64 (m : Nat)), (9, .slice (some ⟨g, 0, none⟩) 2 2), (10, .int .i64 (2 : Nat)), (11, .int .i64 (j : Nat))])
    2 _ ?_ ⟨0, 0, by omega, rfl, rfl, rfl, rfl⟩ ?_
  · exact ⟨rfl, rfl, rfl, rfl, rfl, trivial⟩
  rintro t σ w' ih ⟨j, m, hj, rfl, rfl, hm, rfl⟩
  refine au ?_
  by_cases hlt : j < 2
  · refine ye ?_
    refine au ?_
    refine pl_val _ rfl rfl (val_index j hT rfl rfl rfl rfl rfl hlt w') ?_
    rcases (by omega : j = 0 ∨ j = 1) with rfl | rfl
    · have hm : m = 0 := hm
      refine pl_val _ rfl rfl (val_load1 hT rfl rfl rfl (hg.cell rfl)) ?_
      refine au ?_
      refine pl_num ((l.length : Int)) rfl rfl rfl rfl rfl (by simp only [ariP]; omega) ?_
      refine au ?_
      refine nay ?_
      refine au ?_
      refine pl_num (((1 : Nat) : Int)) rfl rfl rfl rfl rfl (by simp only [ariP]; omega) ?_
      refine au ?_
      refine rn_sub ?_ (ih 1 [(0, .slice (some ⟨g, 0, none⟩) 2 2), (3, .int .i64 (l.length : Nat)), (9, .slice (some ⟨g, 0, none⟩) 2 2), (10, .int .i64 (2 : Nat)), (11, .int .i64 (1 : Nat))] w' (by omega) ⟨1, _, by omega, rfl, rfl, rfl, rfl⟩)
      exact ⟨rfl, rfl, rfl, rfl, rfl, trivial⟩
    · have hm : m = l.length := hm
      refine pl_val _ rfl rfl (val_load1 hT rfl rfl rfl (hg.cell rfl)) ?_
      refine au ?_
      refine pl_num (((l.length + l2.length : Nat) : Int)) rfl rfl rfl rfl rfl (by simp only [ariP]; omega) ?_
      refine au ?_
      refine nay ?_
      refine au ?_
      refine pl_num (((2 : Nat) : Int)) rfl rfl rfl rfl rfl (by simp only [ariP]; omega) ?_
      refine au ?_
      refine rn_sub ?_ (ih 0 [(0, .slice (some ⟨g, 0, none⟩) 2 2), (3, .int .i64 ((l.length + l2.length : Nat) : Int)), (9, .slice (some ⟨g, 0, none⟩) 2 2), (10, .int .i64 (2 : Nat)), (11, .int .i64 (2 : Nat))] w' (by omega) ⟨2, _, by omega, rfl, rfl, rfl, rfl⟩)
      exact ⟨rfl, rfl, rfl, rfl, rfl, trivial⟩
  have hj2 : j = 2 := by omega
  subst hj2
  have hm : m = l.length + l2.length := hm
  subst hm
  refine nay ?_
  refine au ?_
  refine pl_op rfl rfl (opTo_call (fst := []) (cap := []) rfl rfl rfl rfl (by decide +kernel) ((growSt_ret (l.length + l2.length) w' (by omega) hb).mono ?_))
  rintro r w1 ⟨hown, hk1⟩
  refine au ?_
  refine rn_ind (fun t σ w'' => ∃ (j : Nat) (v : Value) (k : Nat) (xs : List Value), j ≤ 2 ∧ t = 2 - j ∧ (j = 0 → k = 0 ∧ xs = []) ∧ (j = 1 → k = l.length ∧ xs = l.flatMap spC) ∧ (j = 2 → k = l.length + l2.length ∧ xs = l.flatMap spC ++ l2.flatMap spC) ∧ Own w'' w'.heap.size tSt 4 v k xs ∧ Keep [] w' w'' ∧ σ = [(6, v), (25, .slice (some ⟨g, 0, none⟩) 2 2), (26, .int .i64 (2 : Nat)), (27, .int .i64 (j : Nat))])
    2 _ ?_ ⟨0, r, 0, [], by omega, rfl, fun _ => ⟨rfl, rfl⟩, fun h => (by cases h), fun h => (by cases h), hown, hk1, rfl⟩ ?_
  · exact ⟨rfl, rfl, rfl, rfl, trivial⟩
  rintro t σ w2 ih2 ⟨j, v, k, xs, hj, rfl, e0, e1, e2, hown2, hk2, rfl⟩
  refine au ?_
  by_cases hlt : j < 2
  · refine ye ?_
    refine au ?_
    refine pl_val _ rfl rfl (val_index j hT rfl rfl rfl rfl rfl hlt w2) ?_
    have hg2 := hk2.blk hg (by simp)
    have hz2 := hk2.size
    rcases (by omega : j = 0 ∨ j = 1) with rfl | rfl
    · obtain ⟨rfl, rfl⟩ := e0 rfl
      refine pl_val _ rfl rfl (val_load1 hT rfl rfl rfl (hg2.cell rfl)) ?_
      refine au ?_
      refine pl_op rfl rfl (opTo_appSp w'.heap.size rfl rfl rfl hown2 (hl.keep0 hk2) (by omega) hz2 ?_)
      intro v' w3 fp2 hown3 hf hk3
      rw [Nat.zero_add, List.nil_append] at hown3
      refine au ?_
      refine pl_num (((1 : Nat) : Int)) rfl rfl rfl rfl rfl (by simp only [ariP]; omega) ?_
      refine au ?_
      refine rn_sub ?_ (ih2 1 [(6, v'), (25, .slice (some ⟨g, 0, none⟩) 2 2), (26, .int .i64 (2 : Nat)), (27, .int .i64 (1 : Nat))] w3 (by omega) ⟨1, v', _, _, by omega, rfl, fun h => (by cases h), fun _ => ⟨rfl, rfl⟩, fun h => (by cases h), hown3, hk2.trans hk3 (fun k hk => .inr (hf k hk)), rfl⟩)
      exact ⟨rfl, rfl, rfl, rfl, trivial⟩
    · obtain ⟨rfl, rfl⟩ := e1 rfl
      refine pl_val _ rfl rfl (val_load1 hT rfl rfl rfl (hg2.cell rfl)) ?_
      refine au ?_
      refine pl_op rfl rfl (opTo_appSp w'.heap.size rfl rfl rfl hown2 (hs.keep0 hk2) (by omega) hz2 ?_)
      intro v' w3 fp2 hown3 hf hk3
      refine au ?_
      refine pl_num (((2 : Nat) : Int)) rfl rfl rfl rfl rfl (by simp only [ariP]; omega) ?_
      refine au ?_
      refine rn_sub ?_ (ih2 0 [(6, v'), (25, .slice (some ⟨g, 0, none⟩) 2 2), (26, .int .i64 (2 : Nat)), (27, .int .i64 (2 : Nat))] w3 (by omega) ⟨2, v', _, _, by omega, rfl, fun h => (by cases h), fun h => (by cases h), fun _ => ⟨rfl, rfl⟩, hown3, hk2.trans hk3 (fun k hk => .inr (hf k hk)), rfl⟩)
      exact ⟨rfl, rfl, rfl, rfl, trivial⟩
  have hj2 : j = 2 := by omega
  obtain ⟨rfl, rfl⟩ := e2 hj2
  refine nay ?_
  refine au ?_
  exact rn_ret Tryz.func33 (.inl ⟨_, rfl, rfl⟩) ⟨hown2, hk2⟩
end E
end Go.Proofs.YtmplkogkphmmjagGreat
