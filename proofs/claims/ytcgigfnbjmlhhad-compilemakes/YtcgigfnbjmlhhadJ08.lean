/- Several texts in one: CkC, LiftC. -/
import Derived.Test.YtcgigfnbjmlhhadJ07
import Derived.Test.YtcgigfnbjmlhhadJ02
import Derived.Test.YtcgigfnbjmlhhadJ03
/- The landed maker: contracts of stmts, loop, choice, stmt, and of Make. -/
namespace Go.Proofs.Ytcgigfnbjmlhhad
set_option maxRecDepth 20000
set_option maxHeartbeats 4000000
namespace E
open Go.Proofs

theorem neSM : 49 ≠ tMk := by decide
theorem neSI : 49 ≠ tIn := by decide
theorem zero_mt : ((Try.prog.info? 49).bind (·.zero)).map (·.cells) = some stmtZ.toArray := by kernel_rfl
theorem size_mt : sizeOk Try.prog 49 12 = true := by kernel_rfl
theorem list4m {l : List Value} (h : l.length = 4) : ∃ a b c d, l = [a, b, c, d] := by
  match l, h with
  | [a, b, c, d], _ => exact ⟨a, b, c, d, rfl⟩

/-- What loop and choice make behind what there is. -/
def whT (i0 : Nat) (L X : List Is) : List Is := L ++ (13, ((L.length + 1 + X.length + 1 : Nat) : Int), 0, 0) :: (X ++ [(14, ((i0 : Nat) : Int), 0, 0)])
def ifT (L X Y : List Is) : List Is := L ++ (13, ((L.length + 1 + X.length + 1 : Nat) : Int), 0, 0) :: (X ++ (14, ((L.length + 1 + X.length + 1 + Y.length : Nat) : Int), 0, 0) :: Y)

section
variable {w0 w : World} {b : Nat} {vv bv : Value}
theorem mleadT {l l' p r : List Is} {op a c n : Int} (k : Nat) (h : Mt w0 w b l vv bv) (hk : k = p.length) (hl : l = p ++ (op, a, c, n) :: r) (hl' : l' = p ++ (op, ((l.length : Nat) : Int), c, n) :: r) : Ret Try.prog 58 [.pointer (some ⟨b, 0, none⟩), .int .i64 (k : Nat)] w fun r' w' => r' = .tuple #[] ∧ Mt w0 w' b l' vv bv ∧ Mf w w' := by
  subst hk hl hl'
  exact mlead_ret h
theorem maddT {l l' : List Is} (k : Nat) (h : Mt w0 w b l vv bv) (x : Is) (hl : l.length ≤ 900000) (hk : k = l.length) (hl' : l' = l ++ [x]) : Ret Try.prog 19 [.pointer (some ⟨b, 0, none⟩), .agg (iC x).toArray] w fun r w' => r = .int .i64 (k : Nat) ∧ Mt w0 w' b l' vv bv ∧ Mf w w' := by
  subst hk hl'
  exact madd_ret h x hl
end

/-- stmt does for what is smaller. -/
def StM (vs : List VarT) (F : Nat → Prop) (w0 : World) (b : Nat) (vv bv : Value) (s : Nat) : Prop := ∀ (t : ST), szS t < s → gdS vs.length t → ∀ {w : World} {cs : List Value} {L : List Is}, StmtV F w0 cs t → Mt w0 w b L vv bv → L.length + 2 * szS t ≤ 900000 →
    Ret Try.prog 29 [.pointer (some ⟨b, 0, none⟩), .agg cs.toArray] w fun r w' => r = .tuple #[] ∧ Mt w0 w' b (L ++ insS vs t L.length) vv bv ∧ Mf w w'

section
variable {vs : List VarT} {bd : List ST} {F : Nat → Prop} {w0 : World} {vv bv : Value} {b s : Nat}
theorem mstmts_ret (hF : In F w0) (hst : StM vs F w0 b vv bv s) (l : List ST) (hls : szSs l < s) (hgd : gdSs vs.length l) {w : World} {x : Value} {L : List Is} (hE : StmtsV F w0 x l) (h : Mt w0 w b L vv bv) (hl : L.length + 2 * szSs l ≤ 900000) :
    Ret Try.prog 18 [.pointer (some ⟨b, 0, none⟩), x] w fun r w' => r = .tuple #[] ∧ Mt w0 w' b (L ++ insSs vs l L.length) vv bv ∧ Mf w w' := by
  obtain ⟨a, cap, rfl⟩ := hE.form
  have hlen := szSs_len l
  refine ret_of 16 Try.func18 rfl rfl (by simp) ?_
  refine au ?_
  refine rn_ind (fun m σ w' => ∃ i : Nat, i ≤ l.length ∧ m = l.length - i ∧ σ = [(0, .pointer (some ⟨b, 0, none⟩)), (6, .slice a l.length cap), (7, .int .i64 (l.length : Nat)), (8, .int .i64 (i : Nat))] ∧ Mt w0 w' b (L ++ insSs vs (l.take i) L.length) vv bv ∧ Mf w w') l.length _ ?_ ⟨0, by omega, by omega, rfl, by simpa [insSs] using h, Mf.refl _⟩ ?_
  · exact ⟨rfl, rfl, rfl, rfl, trivial⟩
  rintro m σ w6 ih ⟨i, hi, rfl, rfl, h6, ho6⟩
  refine au ?_
  by_cases hlt : i < l.length
  · refine ye ?_
    have hxi : l[i]? = some l[i] := List.getElem?_eq_getElem hlt
    obtain ⟨b1, q1, c1, ci, hv1, hF1, hr1, hc1⟩ := hE.at hxi
    cases hv1
    have hszi := szSs_succ hxi
    have hszt := szSs_take l (i + 1)
    have hl1 := insSs_len vs (l.take i) L.length
    have htk := insSs_take vs hxi L.length
    refine au ?_
    refine pl_val _ rfl rfl (val_index i hT rfl rfl rfl rfl rfl hlt w6) ?_
    refine pl_val (.agg ci.toArray) rfl rfl (val_load ci hT rfl rfl (by rw [hc1.length]; rfl) (range_keep hr1 h6.kp (hF _ hF1) (by simp))) ?_
    refine pl_op rfl rfl (opTo_allocN _ rfl zero_mt ?_)
    intro w7 x2 hx2 hs7 hk7 hb7
    refine pl_op rfl rfl (opTo_storeN ci rfl rfl rfl rfl (by rw [hc1.length]; exact size_mt) hb7 (by rw [hc1.length]; simp [stmtZ]) hc1.one ?_)
    intro w8 hs8 hk8 hb8
    rw [splice_whole (by rw [hc1.length]; rfl)] at hb8
    have hk68 : Keep [] w6 w8 := hk7.trB hk8 (by omega)
    refine au ?_
    refine pl_val (.agg ci.toArray) rfl rfl (val_load ci hT rfl rfl (by rw [hc1.length]; rfl) (hb8.range (by simp))) ?_
    refine pl_op rfl rfl (opTo_call (fst := []) (cap := []) rfl rfl rfl rfl (by decide +kernel) ((hst l[i] (by omega) (gdSs_at hgd hxi) hc1 (h6.keep0 hk68) (by simp only [List.length_append]; omega)).mono ?_))
    rintro r w9 ⟨rfl, h9, ho9⟩
    refine au ?_
    refine pl_num (((i + 1 : Nat) : Int)) rfl rfl rfl rfl rfl (by simp only [ariP]; omega) ?_
    refine au ?_
    refine rn_sub ?_ (ih (l.length - (i + 1)) [(0, .pointer (some ⟨b, 0, none⟩)), (6, .slice (some ⟨b1, q1, none⟩) l.length cap), (7, .int .i64 (l.length : Nat)), (8, .int .i64 ((i + 1 : Nat) : Int))] w9 (by omega) ⟨i + 1, by omega, rfl, rfl, ?_, (ho6.tr (Mf.of0 hk68)).tr ho9⟩)
    · exact ⟨rfl, rfl, rfl, rfl, trivial⟩
    · rw [htk, ← List.append_assoc]
      rw [List.length_append] at h9
      exact h9
  · refine nay ?_
    rw [List.take_of_length_le (by omega)] at h6
    refine au ?_
    exact rn_end Try.func18 (.inr (.inl ⟨rfl, rfl⟩)) ⟨rfl, h6, ho6⟩
theorem mstmtsT (hF : In F w0) (hst : StM vs F w0 b vv bv s) (l : List ST) (hls : szSs l < s) (hgd : gdSs vs.length l) {w : World} {x : Value} {L L' : List Is} (i0 : Nat) (hE : StmtsV F w0 x l) (h : Mt w0 w b L vv bv) (hl : L.length + 2 * szSs l ≤ 900000) (hi : i0 = L.length) (hL' : L' = L ++ insSs vs l i0) :
    Ret Try.prog 18 [.pointer (some ⟨b, 0, none⟩), x] w fun r w' => r = .tuple #[] ∧ Mt w0 w' b L' vv bv ∧ Mf w w' := by
  subst hi hL'
  exact mstmts_ret hF hst l hls hgd hE h hl

theorem mloop_ret (hF : In F w0) (hst : StM vs F w0 b vv bv s) (l : List ST) (hls : szSs l < s) (hgd : gdSs vs.length l) (i0 : Nat) {w : World} {x : Value} {L : List Is} (hE : StmtsV F w0 x l) (h : Mt w0 w b L vv bv) (hl : L.length + 2 * szSs l + 2 ≤ 900000) :
    Ret Try.prog 49 [.pointer (some ⟨b, 0, none⟩), .int .i64 (i0 : Nat), x] w fun r w' => r = .tuple #[] ∧ Mt w0 w' b (whT i0 L (insSs vs l (L.length + 1))) vv bv ∧ Mf w w' := by
  have hXl := insSs_len vs l (L.length + 1)
  obtain ⟨X, hX⟩ : ∃ X, X = insSs vs l (L.length + 1) := ⟨_, rfl⟩
  rw [← hX] at hXl ⊢
  refine ret_of 26 Try.func49 rfl rfl (by simp) ?_
  refine au ?_
  refine pl_val _ rfl rfl (val_build _ rfl rfl (built_mi0 13) w) ?_
  refine pl_op rfl rfl (opTo_call (fst := []) (cap := []) rfl rfl rfl rfl (by decide +kernel) ((madd_ret h (13, 0, 0, 0) (by omega)).mono ?_))
  rintro r w1 ⟨rfl, h1, ho1⟩
  refine au ?_
  refine pl_op rfl rfl (opTo_call (fst := []) (cap := []) rfl rfl rfl rfl (by decide +kernel) ((mstmtsT hF hst l hls hgd (L' := L ++ (13, 0, 0, 0) :: X) (L.length + 1) hE h1 (by simp; omega) (by simp) (by rw [hX]; simp)).mono ?_))
  rintro r w2 ⟨rfl, h2, ho2⟩
  refine au ?_
  refine pl_val _ rfl rfl (val_build _ rfl rfl (built_mi1 14 ((i0 : Nat) : Int)) w2) ?_
  refine pl_op rfl rfl (opTo_call (fst := []) (cap := []) rfl rfl rfl rfl (by decide +kernel) ((madd_ret h2 (14, ((i0 : Nat) : Int), 0, 0) (by simp; omega)).mono ?_))
  rintro r w3 ⟨rfl, h3, ho3⟩
  refine au ?_
  refine pl_op rfl rfl (opTo_call (fst := []) (cap := []) rfl rfl rfl rfl (by decide +kernel) ((mleadT (op := 13) (a := 0) (c := 0) (n := 0) (l' := whT i0 L X) (p := L) (r := X ++ [(14, ((i0 : Nat) : Int), 0, 0)]) L.length h3 rfl (by simp) (by simp [whT]; omega)).mono ?_))
  rintro r w4 ⟨rfl, h4, ho4⟩
  refine au ?_
  exact rn_end Try.func49 (.inr (.inl ⟨rfl, rfl⟩)) ⟨rfl, h4, ((ho1.tr ho2).tr ho3).tr ho4⟩

theorem mchoice_ret (hF : In F w0) (hst : StM vs F w0 b vv bv s) (l lo : List ST) (hls : szSs l + szSs lo < s) (hgd : gdSs vs.length l) (hgo : gdSs vs.length lo) {w : World} {x y : Value} {L : List Is} (hE : StmtsV F w0 x l) (hO : StmtsV F w0 y lo) (h : Mt w0 w b L vv bv) (hl : L.length + 2 * szSs l + 2 * szSs lo + 2 ≤ 900000) :
    Ret Try.prog 50 [.pointer (some ⟨b, 0, none⟩), x, y] w fun r w' => r = .tuple #[] ∧ Mt w0 w' b (ifT L (insSs vs l (L.length + 1)) (insSs vs lo (L.length + 1 + (insSs vs l (L.length + 1)).length + 1))) vv bv ∧ Mf w w' := by
  have hXl := insSs_len vs l (L.length + 1)
  obtain ⟨X, hX⟩ : ∃ X, X = insSs vs l (L.length + 1) := ⟨_, rfl⟩
  rw [← hX] at hXl ⊢
  have hYl := insSs_len vs lo (L.length + 1 + X.length + 1)
  obtain ⟨Y, hY⟩ : ∃ Y, Y = insSs vs lo (L.length + 1 + X.length + 1) := ⟨_, rfl⟩
  rw [← hY] at hYl ⊢
  refine ret_of 34 Try.func50 rfl rfl (by simp) ?_
  refine au ?_
  refine pl_val _ rfl rfl (val_build _ rfl rfl (built_mi0 13) w) ?_
  refine pl_op rfl rfl (opTo_call (fst := []) (cap := []) rfl rfl rfl rfl (by decide +kernel) ((madd_ret h (13, 0, 0, 0) (by omega)).mono ?_))
  rintro r w1 ⟨rfl, h1, ho1⟩
  refine au ?_
  refine pl_op rfl rfl (opTo_call (fst := []) (cap := []) rfl rfl rfl rfl (by decide +kernel) ((mstmtsT hF hst l (by omega) hgd (L' := L ++ (13, 0, 0, 0) :: X) (L.length + 1) hE h1 (by simp; omega) (by simp) (by rw [hX]; simp)).mono ?_))
  rintro r w2 ⟨rfl, h2, ho2⟩
  refine au ?_
  refine pl_val _ rfl rfl (val_build _ rfl rfl (built_mi0 14) w2) ?_
  refine pl_op rfl rfl (opTo_call (fst := []) (cap := []) rfl rfl rfl rfl (by decide +kernel) ((maddT (l' := L ++ (13, 0, 0, 0) :: (X ++ [(14, 0, 0, 0)])) (L.length + 1 + X.length) h2 (14, 0, 0, 0) (by simp; omega) (by simp; omega) (by simp)).mono ?_))
  rintro r w3 ⟨rfl, h3, ho3⟩
  refine au ?_
  refine pl_op rfl rfl (opTo_call (fst := []) (cap := []) rfl rfl rfl rfl (by decide +kernel) ((mleadT (op := 13) (a := 0) (c := 0) (n := 0) (l' := L ++ (13, ((L.length + 1 + X.length + 1 : Nat) : Int), 0, 0) :: (X ++ [(14, 0, 0, 0)])) (p := L) (r := X ++ [(14, 0, 0, 0)]) L.length h3 rfl rfl (by simp; omega)).mono ?_))
  rintro r w4 ⟨rfl, h4, ho4⟩
  refine au ?_
  refine pl_op rfl rfl (opTo_call (fst := []) (cap := []) rfl rfl rfl rfl (by decide +kernel) ((mstmtsT hF hst lo (by omega) hgo (L' := (L ++ (13, ((L.length + 1 + X.length + 1 : Nat) : Int), 0, 0) :: X) ++ (14, 0, 0, 0) :: Y) (L.length + 1 + X.length + 1) hO h4 (by simp; omega) (by simp; omega) (by rw [hY]; simp)).mono ?_))
  rintro r w5 ⟨rfl, h5, ho5⟩
  refine au ?_
  refine pl_op rfl rfl (opTo_call (fst := []) (cap := []) rfl rfl rfl rfl (by decide +kernel) ((mleadT (op := 14) (a := 0) (c := 0) (n := 0) (l' := ifT L X Y) (p := L ++ (13, ((L.length + 1 + X.length + 1 : Nat) : Int), 0, 0) :: X) (r := Y) (L.length + 1 + X.length) h5 (by simp; omega) rfl (by simp [ifT]; omega)).mono ?_))
  rintro r w6 ⟨rfl, h6, ho6⟩
  refine au ?_
  exact rn_end Try.func50 (.inr (.inl ⟨rfl, rfl⟩)) ⟨rfl, h6, ((((ho1.tr ho2).tr ho3).tr ho4).tr ho5).tr ho6⟩
end

theorem mstmt_ret {vs : List VarT} {bd : List ST} {F : Nat → Prop} {w0 : World} {vv bv : Value} (C : Cx vs bd F w0 vv bv) {b : Nat} : ∀ (s : Nat), StM vs F w0 b vv bv s := by
  intro s
  induction s with
  | zero => intro t ht; omega
  | succ s ihs =>
    intro t ht hgd w cs L hX h hl
    obtain ⟨op, v, e, f, lb, lo⟩ := t
    obtain ⟨ce, cf, bv', ov, rfl, he, hf, hb, ho⟩ := hX.inv
    obtain ⟨e0, e1, e2, e3, rfl⟩ := list4m he.length
    obtain ⟨f0, f1, f2, f3, rfl⟩ := list4m hf.length
    obtain ⟨ba, bc, rfl⟩ := hb.form
    obtain ⟨oa, oc, rfl⟩ := ho.form
    obtain ⟨hp1, hp2, hp3, hp4, hp5, hp6, hp7⟩ := hgd
    simp only [szS] at ht hl
    have hel := eI_len vs op e
    obtain ⟨E, hEdef⟩ : ∃ E, eI vs op e = E := ⟨_, rfl⟩
    rw [hEdef] at hel
    refine ret_of 100 Try.func29 rfl rfl (by simp) ?_
    refine au ?_
    refine pl_op rfl rfl (opTo_boxN [.int .i64 op, .int .i64 v, e0, e1, e2, e3, f0, f1, f2, f3, .slice ba lb.length bc, .slice oa lo.length oc] rfl rfl rfl ?_)
    intro w1 x1 hx1 hs1 hk1 hX1
    obtain ⟨mv1, h1⟩ := h.keep0 hk1
    refine au ?_
    refine pl_op rfl rfl (opTo_call (fst := []) (cap := []) rfl rfl rfl rfl (by decide +kernel) ((mnext_ret h1).mono ?_))
    rintro r w1' ⟨rfl, hww⟩
    rw [hww]
    refine auj ?_
    refine rn_seq ?_
    refine rn_with (fun σ' w' => Mt w0 w' b (L ++ E) vv bv ∧ Mf w1 w' ∧ Sub [(0, .pointer (some ⟨b, 0, none⟩)), (3, .pointer (some ⟨x1, 0, none⟩)), (4, .int .i64 (L.length : Nat))] σ') ?_ ?_
    rotate_left
    · intro fin
      refine au ?_
      refine pl_val _ rfl rfl (val_load1 hT rfl rfl rfl (hX1.cell rfl)) ?_
      obtain ⟨qe, hqe⟩ : ∃ q, q = needE op := ⟨_, rfl⟩
      refine pl_op rfl rfl (opTo_call (fst := []) (cap := []) rfl rfl rfl rfl (by decide +kernel) ((has_ret op w1).mono ?_))
      rintro r w3 ⟨hr, hww⟩
      unfold hasV at hr
      rw [← hqe] at hr
      subst hr
      rw [hww]
      unfold eI at hEdef
      rw [← hqe] at hEdef
      cases qe with
      | false =>
        refine auj ?_
        refine rn_seq ?_
        refine rn_plain ?_
        refine auj ?_
        have hE0 : E = [] := by rw [← hEdef]; rfl
        exact fin _ _ ⟨by rw [hE0, List.append_nil]; exact ⟨_, h1⟩, Mf.refl _, rfl, rfl, rfl, trivial⟩
      | true =>
        refine au ?_
        refine pl_val (.agg #[e0, e1, e2, e3]) rfl rfl (val_load [e0, e1, e2, e3] hT rfl rfl rfl (hX1.range rfl)) ?_
        refine pl_op rfl rfl (opTo_call (fst := []) (cap := []) rfl rfl rfl rfl (by decide +kernel) ((mexpr_ret C (szE e + 1) e (by omega) (hp4 hqe.symm) he (⟨_, h1⟩ : Mt w0 w1 b L vv bv) (by omega)).mono ?_))
        rintro r w4 ⟨rfl, h4, ho4⟩
        refine auj ?_
        have hE1 : E = insE vs e := by rw [← hEdef]; rfl
        exact fin _ _ ⟨by rw [hE1]; exact h4, ho4, rfl, rfl, rfl, trivial⟩
    rintro σ' w4 ⟨⟨mv, h4⟩, ho4, hsub⟩
    refine rn_sub hsub ?_
    clear hsub
    have hX4 := ho4.blk hX1 neSM neSI
    have ho04 : Mf w w4 := (Mf.of0 hk1).tr ho4
    refine au ?_
    refine pl_val _ rfl rfl (val_load1 hT rfl rfl rfl (hX4.cell rfl)) ?_
    refine au ?_
    by_cases hop1 : op = 1
    · subst hop1
      refine ye ?_
      refine au ?_
      refine rn_draw (fun w' => Keep [] w4 w') [8] hMix ?_
      have hS : Keep [] w4 w4.drew := (Keep.refl _ _).drew
      generalize w4.drew = w5 at *
      refine tk 0 ?_
      refine tk 1 ?_
      refine tk 2 ?_
      refine tk 3 ?_
      refine tk 4 ?_
      refine dr_val 5 (.int .i64 v) rfl (by decide +kernel) rfl rfl (fun w9 hS9 => val_load1 hT rfl rfl rfl ((hS9.blk hX4 (by simp)).cell rfl)) hS ?_
      refine dr_op 6 rfl (by decide +kernel) rfl rfl (opTo_call (fst := []) (cap := []) rfl rfl rfl rfl (by decide +kernel) ((mcell_ret C (h4.keep0 hS) v).mono ?_))
      rintro r w6 ⟨rfl, hk6⟩
      have hS6 := hS.tr hk6
      refine ⟨fun _ => hS6, ?_⟩
      refine dr_any 7 _ rfl (by decide +kernel) rfl rfl (fun w => val_build _ rfl rfl (built_mi1 9 (cellOf vs v)) w) ?_
      refine dr_op 8 rfl (by decide +kernel) rfl rfl (opTo_call (fst := []) (cap := []) rfl rfl rfl rfl (by decide +kernel) ((madd_ret (⟨mv, h4.keep0 hS6⟩ : Mt w0 w6 b (L ++ E) vv bv) (9, cellOf vs v, 0, 0) (by simp only [List.length_append]; omega)).mono ?_))
      rintro r w7 ⟨rfl, h7, ho7⟩
      refine ⟨fun h => absurd (by simp) h, ?_⟩
      refine dr_done (by decide +kernel) ?_
      refine au ?_
      refine rn_end Try.func29 (.inr (.inl ⟨rfl, rfl⟩)) ⟨rfl, ?_, (ho04.tr (Mf.of0 hS6)).tr ho7⟩
      simpa [insS, lastI, fI, needF, hEdef] using h7
    refine nay ?_
    refine au ?_
    by_cases hop2 : op = 2
    · subst hop2
      refine ye ?_
      obtain ⟨hv0, hvl⟩ := hp3 rfl
      refine au ?_
      refine pl_val (.agg #[f0, f1, f2, f3]) rfl rfl (val_load [f0, f1, f2, f3] hT rfl rfl rfl (hX4.range rfl)) ?_
      refine pl_op rfl rfl (opTo_call (fst := []) (cap := []) rfl rfl rfl rfl (by decide +kernel) ((mexpr_ret C (szE f + 1) f (by omega) (hp5 rfl) hf (⟨mv, h4⟩ : Mt w0 w4 b (L ++ E) vv bv) (by simp only [List.length_append]; omega)).mono ?_))
      rintro r w5 ⟨rfl, ⟨mv5, h5⟩, ho5⟩
      have hX5 := ho5.blk hX4 neSM neSI
      have hfl2 := insE_len vs f
      refine au ?_
      refine rn_draw (fun w' => Keep [] w5 w') [12] hMix ?_
      have hS : Keep [] w5 w5.drew := (Keep.refl _ _).drew
      generalize w5.drew = w6 at *
      refine tk 0 ?_
      refine tk 1 ?_
      refine tk 2 ?_
      refine tk 3 ?_
      refine tk 4 ?_
      refine dr_val 5 (.int .i64 v) rfl (by decide +kernel) rfl rfl (fun w9 hS9 => val_load1 hT rfl rfl rfl ((hS9.blk hX5 (by simp)).cell rfl)) hS ?_
      refine tk 7 ?_
      refine tk 8 ?_
      refine dr_val 9 (.int .i64 v) rfl (by decide +kernel) rfl rfl (fun w9 hS9 => val_load1 hT rfl rfl rfl ((hS9.blk hX5 (by simp)).cell rfl)) hS ?_
      refine dr_op 6 rfl (by decide +kernel) rfl rfl (opTo_call (fst := []) (cap := []) rfl rfl rfl rfl (by decide +kernel) ((mcell_ret C (h5.keep0 hS) v).mono ?_))
      rintro r w7 ⟨rfl, hk7⟩
      have hS7 := hS.tr hk7
      refine ⟨fun _ => hS7, ?_⟩
      refine dr_op 10 rfl (by decide +kernel) rfl rfl (opTo_call (fst := []) (cap := []) rfl rfl rfl rfl (by decide +kernel) ((msize_ret C (h5.keep0 hS7) v hv0 hvl).mono ?_))
      rintro r w7' ⟨rfl, hww⟩
      rw [hww]
      refine ⟨fun _ => hS7, ?_⟩
      refine dr_any 11 _ rfl (by decide +kernel) rfl rfl (fun w => val_build _ rfl rfl (built_mi2 10 (cellOf vs v) (sizeV vs v)) w) ?_
      refine dr_op 12 rfl (by decide +kernel) rfl rfl (opTo_call (fst := []) (cap := []) rfl rfl rfl rfl (by decide +kernel) ((madd_ret (⟨mv5, h5.keep0 hS7⟩ : Mt w0 w7 b (L ++ E ++ insE vs f) vv bv) (10, cellOf vs v, sizeV vs v, 0) (by simp only [List.length_append]; omega)).mono ?_))
      rintro r w8 ⟨rfl, h8, ho8⟩
      refine ⟨fun h => absurd (by simp) h, ?_⟩
      refine dr_done (by decide +kernel) ?_
      refine au ?_
      refine rn_end Try.func29 (.inr (.inl ⟨rfl, rfl⟩)) ⟨rfl, ?_, ((ho04.tr ho5).tr (Mf.of0 hS7)).tr ho8⟩
      simpa [insS, lastI, fI, needF, hEdef] using h8
    refine nay ?_
    refine au ?_
    by_cases hop3 : op = 3
    · subst hop3
      refine ye ?_
      refine au ?_
      refine pl_val _ rfl rfl (val_build _ rfl rfl (built_mi0 11) w4) ?_
      refine pl_op rfl rfl (opTo_call (fst := []) (cap := []) rfl rfl rfl rfl (by decide +kernel) ((madd_ret (⟨mv, h4⟩ : Mt w0 w4 b (L ++ E) vv bv) (11, 0, 0, 0) (by simp only [List.length_append]; omega)).mono ?_))
      rintro r w5 ⟨rfl, h5, ho5⟩
      refine au ?_
      refine rn_end Try.func29 (.inr (.inl ⟨rfl, rfl⟩)) ⟨rfl, ?_, ho04.tr ho5⟩
      simpa [insS, lastI, fI, needF, hEdef] using h5
    refine nay ?_
    refine au ?_
    by_cases hop4 : op = 4
    · subst hop4
      refine ye ?_
      refine au ?_
      refine rn_draw (fun w' => Keep [] w4 w') [8] hMix ?_
      have hS : Keep [] w4 w4.drew := (Keep.refl _ _).drew
      generalize w4.drew = w5 at *
      refine tk 0 ?_
      refine tk 1 ?_
      refine tk 2 ?_
      refine tk 3 ?_
      refine tk 4 ?_
      refine dr_val 5 (.int .i64 v) rfl (by decide +kernel) rfl rfl (fun w9 hS9 => val_load1 hT rfl rfl rfl ((hS9.blk hX4 (by simp)).cell rfl)) hS ?_
      refine dr_op 6 rfl (by decide +kernel) rfl rfl (opTo_call (fst := []) (cap := []) rfl rfl rfl rfl (by decide +kernel) ((mcell_ret C (h4.keep0 hS) v).mono ?_))
      rintro r w6 ⟨rfl, hk6⟩
      have hS6 := hS.tr hk6
      refine ⟨fun _ => hS6, ?_⟩
      refine dr_any 7 _ rfl (by decide +kernel) rfl rfl (fun w => val_build _ rfl rfl (built_mi1 12 (cellOf vs v)) w) ?_
      refine dr_op 8 rfl (by decide +kernel) rfl rfl (opTo_call (fst := []) (cap := []) rfl rfl rfl rfl (by decide +kernel) ((madd_ret (⟨mv, h4.keep0 hS6⟩ : Mt w0 w6 b (L ++ E) vv bv) (12, cellOf vs v, 0, 0) (by simp only [List.length_append]; omega)).mono ?_))
      rintro r w7 ⟨rfl, h7, ho7⟩
      refine ⟨fun h => absurd (by simp) h, ?_⟩
      refine dr_done (by decide +kernel) ?_
      refine au ?_
      refine rn_end Try.func29 (.inr (.inl ⟨rfl, rfl⟩)) ⟨rfl, ?_, (ho04.tr (Mf.of0 hS6)).tr ho7⟩
      simpa [insS, lastI, fI, needF, hEdef] using h7
    refine nay ?_
    refine au ?_
    by_cases hop5 : op = 5
    · subst hop5
      refine ye ?_
      refine au ?_
      refine pl_val _ rfl rfl (val_load1 hT rfl rfl rfl (hX4.cell rfl)) ?_
      refine pl_op rfl rfl (opTo_call (fst := []) (cap := []) rfl rfl rfl rfl (by decide +kernel) ((mloop_ret C.hF ihs lb (by omega) hp6 L.length hb (⟨mv, h4⟩ : Mt w0 w4 b (L ++ E) vv bv) (by simp only [List.length_append]; omega)).mono ?_))
      rintro r w5 ⟨rfl, h5, ho5⟩
      refine au ?_
      refine rn_end Try.func29 (.inr (.inl ⟨rfl, rfl⟩)) ⟨rfl, ?_, ho04.tr ho5⟩
      have e9 : L ++ insS vs (.mk 5 v e f lb lo) L.length = whT L.length (L ++ E) (insSs vs lb ((L ++ E).length + 1)) := by
        rw [insS, if_pos rfl, hEdef, List.length_append]
        simp [whileI, whT, Nat.add_assoc, Nat.add_comm, Nat.add_left_comm]
      rw [e9]
      exact h5
    refine nay ?_
    refine au ?_
    by_cases hop6 : op = 6
    · subst hop6
      refine ye ?_
      refine au ?_
      refine pl_val _ rfl rfl (val_load1 hT rfl rfl rfl (hX4.cell rfl)) ?_
      refine au ?_
      refine pl_val _ rfl rfl (val_load1 hT rfl rfl rfl (hX4.cell rfl)) ?_
      refine pl_op rfl rfl (opTo_call (fst := []) (cap := []) rfl rfl rfl rfl (by decide +kernel) ((mchoice_ret C.hF ihs lb lo (by omega) hp6 hp7 hb ho (⟨mv, h4⟩ : Mt w0 w4 b (L ++ E) vv bv) (by simp only [List.length_append]; omega)).mono ?_))
      rintro r w5 ⟨rfl, h5, ho5⟩
      refine au ?_
      refine rn_end Try.func29 (.inr (.inl ⟨rfl, rfl⟩)) ⟨rfl, ?_, ho04.tr ho5⟩
      have e9 : L ++ insS vs (.mk 6 v e f lb lo) L.length = ifT (L ++ E) (insSs vs lb ((L ++ E).length + 1)) (insSs vs lo ((L ++ E).length + 1 + (insSs vs lb ((L ++ E).length + 1)).length + 1)) := by
        rw [insS, if_neg (by decide), if_pos rfl, hEdef, List.length_append]
        simp [ifI, ifT, Nat.add_assoc, Nat.add_comm, Nat.add_left_comm]
      rw [e9]
      exact h5
    refine nay ?_
    refine au ?_
    have hop7 : op = 7 := by omega
    subst hop7
    refine ye ?_
    refine au ?_
    refine pl_val _ rfl rfl (val_build _ rfl rfl (built_mi0 15) w4) ?_
    refine pl_op rfl rfl (opTo_call (fst := []) (cap := []) rfl rfl rfl rfl (by decide +kernel) ((madd_ret (⟨mv, h4⟩ : Mt w0 w4 b (L ++ E) vv bv) (15, 0, 0, 0) (by simp only [List.length_append]; omega)).mono ?_))
    rintro r w5 ⟨rfl, h5, ho5⟩
    refine au ?_
    refine rn_end Try.func29 (.inr (.inl ⟨rfl, rfl⟩)) ⟨rfl, ?_, ho04.tr ho5⟩
    simpa [insS, lastI, fI, needF, hEdef] using h5

theorem built_mk (av ab : Option Addr) (n1 n2 c1 c2 : Nat) : Try.prog.built tMk [(1, .agg #[.slice av n1 c1, .slice ab n2 c2])] = some [Value.slice none 0 0, .slice av n1 c1, .slice ab n2 c2].toArray := by kernel_rfl
theorem mkC : MkC := ⟨by
  intro F w x vs body hp hF hvl hsz
  have hp' := hp
  obtain ⟨vv, bv, rfl, hv, hb⟩ := hp'
  obtain ⟨av, capv, rfl⟩ := hv.form
  obtain ⟨ab, capb, rfl⟩ := hb.form
  refine ret_of 28 Try.func9 rfl rfl (by simp) ?_
  refine au ?_
  refine pl_op rfl rfl (opTo_boxN [.slice av vs.length capv, .slice ab body.length capb] rfl rfl rfl ?_)
  intro w1 x1 hx1 hs1 hk1 hX1
  refine au ?_
  refine pl_val (.agg #[.slice av vs.length capv, .slice ab body.length capb]) rfl rfl (val_load [.slice av vs.length capv, .slice ab body.length capb] hT rfl rfl rfl (hX1.range (by rfl))) ?_
  refine pl_op rfl rfl (opTo_call (fst := []) (cap := []) rfl rfl rfl rfl (by decide +kernel) ((check_ret (hp.keep hk1 hF.stays) (hF.keep hk1) hsz).mono ?_))
  rintro r w2 ⟨rfl, hk2⟩
  refine au ?_
  by_cases hc : progFault vs body = 0
  · refine nay ?_
    obtain ⟨hS1, hS2, hS3, _⟩ := prog_fit hc
    have hX2 := hk2.blk hX1 (by simp)
    refine au ?_
    refine pl_val (.agg #[.slice av vs.length capv, .slice ab body.length capb]) rfl rfl (val_load [.slice av vs.length capv, .slice ab body.length capb] hT rfl rfl rfl (hX2.range (by rfl))) ?_
    refine pl_val _ rfl rfl (val_build _ rfl rfl (built_mk av ab vs.length body.length capv capb) w2) ?_
    refine pl_op rfl rfl (opTo_boxN [.slice none 0 0, .slice av vs.length capv, .slice ab body.length capb] rfl rfl rfl ?_)
    intro w3 b hb3 hs3 hk3 hbk
    have hk03 := (hk1.tr hk2).tr hk3
    have C : Cx vs body F w (.slice av vs.length capv) (.slice ab body.length capb) := ⟨hp, hF, hS1⟩
    have h3 : Mt w w3 b [] (.slice av vs.length capv) (.slice ab body.length capb) := ⟨_, hk03, by have := (hk1.tr hk2).size; omega, hbk, RowI.nil _ _ _⟩
    refine au ?_
    refine pl_val _ rfl rfl (val_load1 hT rfl rfl rfl ((hk3.blk hX2 (by simp)).cell rfl)) ?_
    refine pl_op rfl rfl (opTo_call (fst := []) (cap := []) rfl rfl rfl rfl (by decide +kernel) ((mstmtsT (L' := insSs vs body 0) C.hF (mstmt_ret C (szSs body + 1)) body (by omega) hS3 0 hb h3 (by simp; omega) rfl rfl).mono ?_))
    rintro r w4 ⟨rfl, h4, ho4⟩
    have hl4 := insSs_len vs body 0
    refine au ?_
    refine pl_val _ rfl rfl (val_build _ rfl rfl (built_mi0 16) w4) ?_
    refine pl_op rfl rfl (opTo_call (fst := []) (cap := []) rfl rfl rfl rfl (by decide +kernel) ((madd_ret h4 haltI (by omega)).mono ?_))
    rintro r w5 ⟨rfl, ⟨mv, h5⟩, ho5⟩
    refine au ?_
    refine pl_val _ rfl rfl (val_load1 hT rfl rfl rfl (h5.bk.cell rfl)) ?_
    refine au ?_
    refine rn_ret Try.func9 (.inr (.inr (.inr (.inr ⟨_, _, _, _, rfl, rfl, rfl, rfl⟩)))) ⟨⟨mv, by rw [hc], ?_⟩, h5.kp⟩
    unfold makeOf
    rw [if_pos hc]
    exact h5.row.ins
  · refine ye ?_
    refine au ?_
    refine rn_ret Try.func9 (.inr (.inr (.inr (.inr ⟨_, _, _, _, rfl, rfl, rfl, rfl⟩)))) ⟨⟨_, rfl, ?_⟩, hk1.tr hk2⟩
    unfold makeOf
    rw [if_neg hc]
    exact InsV.nil⟩
end E
end Go.Proofs.Ytcgigfnbjmlhhad

/- Programs, as an argument of a law is read, are such as the walks know. -/
namespace Go.Proofs.Ytcgigfnbjmlhhad
set_option maxRecDepth 20000
set_option maxHeartbeats 4000000
namespace E
open Go.Proofs

/-- A program whose slice of statements is no longer than its capacity. -/
def CapB (x : Value) : Prop := ∃ vv a n c, x = .agg #[vv, .slice a n c] ∧ n ≤ c
section
variable {H : Type} {enc : TypeId × Value → H} {w : World} {base : Nat} {spare : Nat → Bool} {held : Bool}

theorem cInt : Try.prog.cellsOf 3 = 1 := by decide +kernel
theorem cLong : Try.prog.cellsOf 2 = 1 := by decide +kernel
theorem cStr : Try.prog.cellsOf 9 = 1 := by decide +kernel
theorem cLE : Try.prog.cellsOf 45 = 1 := by decide +kernel
theorem cLS : Try.prog.cellsOf 23 = 1 := by decide +kernel
theorem cLV : Try.prog.cellsOf 22 = 1 := by decide +kernel
theorem cE4 : Try.prog.cellsOf 47 = 4 := by decide +kernel
theorem cS12 : Try.prog.cellsOf 49 = 12 := by decide +kernel
theorem cV2 : Try.prog.cellsOf 51 = 2 := by decide +kernel
theorem cP2 : Try.prog.cellsOf 25 = 2 := by decide +kernel

theorem exprSplit : ExprSplit enc Try.prog w base spare held 3 2 45 47 := by
  intro fuel cs x h
  obtain ⟨xs, n, hn, _, hl, hlen, hf⟩ := DataW.trod_struct Try.underlying47 h
  rw [cE4] at hl
  obtain ⟨c0, c1, c2, c3, rfl⟩ := list4 hl
  have f0 : DataW.trod enc Try.prog w base spare held n 3 (([c0, c1, c2, c3].drop 0).take (Try.prog.cellsOf 3)) = xs[0]? := hf 0 _ rfl
  have f1 : DataW.trod enc Try.prog w base spare held n 3 (([c0, c1, c2, c3].drop 1).take (Try.prog.cellsOf 3)) = xs[1]? := hf 1 _ rfl
  have f2 : DataW.trod enc Try.prog w base spare held n 2 (([c0, c1, c2, c3].drop 2).take (Try.prog.cellsOf 2)) = xs[2]? := hf 2 _ rfl
  have f3 : DataW.trod enc Try.prog w base spare held n 45 (([c0, c1, c2, c3].drop 3).take (Try.prog.cellsOf 45)) = xs[3]? := hf 3 _ rfl
  have hx : ∀ i, i < 4 → ∃ y, xs[i]? = some y := fun i hi => ⟨xs[i]'(by rw [hlen]; exact hi), List.getElem?_eq_getElem _⟩
  obtain ⟨y0, e0⟩ := hx 0 (by decide)
  obtain ⟨y1, e1⟩ := hx 1 (by decide)
  obtain ⟨y2, e2⟩ := hx 2 (by decide)
  obtain ⟨y3, e3⟩ := hx 3 (by decide)
  rw [e0, cInt] at f0
  rw [e1, cInt] at f1
  rw [e2, cLong] at f2
  rw [e3, cLE] at f3
  exact ⟨n, c0, c1, c2, c3, hn, rfl, ⟨y0, f0⟩, ⟨y1, f1⟩, ⟨y2, f2⟩, ⟨y3, f3⟩⟩

theorem list12P {cs : List Value} (h : cs.length = 12) : ∃ a b c d e f g i j k l m, cs = [a, b, c, d, e, f, g, i, j, k, l, m] := by
  match cs, h with
  | [a, b, c, d, e, f, g, i, j, k, l, m], _ => exact ⟨a, b, c, d, e, f, g, i, j, k, l, m, rfl⟩

theorem stmtSplit : StmtSplit enc Try.prog w base spare held 3 47 23 49 := by
  intro fuel cs x h
  obtain ⟨xs, n, hn, _, hl, hlen, hf⟩ := DataW.trod_struct Try.underlying49 h
  rw [cS12] at hl
  obtain ⟨c0, c1, d0, d1, d2, d3, g0, g1, g2, g3, cb, co, rfl⟩ := list12P hl
  have f0 : DataW.trod enc Try.prog w base spare held n 3 (([c0, c1, d0, d1, d2, d3, g0, g1, g2, g3, cb, co].drop 0).take (Try.prog.cellsOf 3)) = xs[0]? := hf 0 _ rfl
  have f1 : DataW.trod enc Try.prog w base spare held n 3 (([c0, c1, d0, d1, d2, d3, g0, g1, g2, g3, cb, co].drop 1).take (Try.prog.cellsOf 3)) = xs[1]? := hf 1 _ rfl
  have f2 : DataW.trod enc Try.prog w base spare held n 47 (([c0, c1, d0, d1, d2, d3, g0, g1, g2, g3, cb, co].drop 2).take (Try.prog.cellsOf 47)) = xs[2]? := hf 2 _ rfl
  have f3 : DataW.trod enc Try.prog w base spare held n 47 (([c0, c1, d0, d1, d2, d3, g0, g1, g2, g3, cb, co].drop 6).take (Try.prog.cellsOf 47)) = xs[3]? := hf 3 _ rfl
  have f4 : DataW.trod enc Try.prog w base spare held n 23 (([c0, c1, d0, d1, d2, d3, g0, g1, g2, g3, cb, co].drop 10).take (Try.prog.cellsOf 23)) = xs[4]? := hf 4 _ rfl
  have f5 : DataW.trod enc Try.prog w base spare held n 23 (([c0, c1, d0, d1, d2, d3, g0, g1, g2, g3, cb, co].drop 11).take (Try.prog.cellsOf 23)) = xs[5]? := hf 5 _ rfl
  have hx : ∀ i, i < 6 → ∃ y, xs[i]? = some y := fun i hi => ⟨xs[i]'(by rw [hlen]; exact hi), List.getElem?_eq_getElem _⟩
  obtain ⟨y0, e0⟩ := hx 0 (by decide)
  obtain ⟨y1, e1⟩ := hx 1 (by decide)
  obtain ⟨y2, e2⟩ := hx 2 (by decide)
  obtain ⟨y3, e3⟩ := hx 3 (by decide)
  obtain ⟨y4, e4⟩ := hx 4 (by decide)
  obtain ⟨y5, e5⟩ := hx 5 (by decide)
  rw [e0, cInt] at f0
  rw [e1, cInt] at f1
  rw [e2, cE4] at f2
  rw [e3, cE4] at f3
  rw [e4, cLS] at f4
  rw [e5, cLS] at f5
  exact ⟨n, c0, c1, [d0, d1, d2, d3], [g0, g1, g2, g3], cb, co, hn, rfl, ⟨y0, f0⟩, ⟨y1, f1⟩, ⟨y2, f2⟩, ⟨y3, f3⟩, ⟨y4, f4⟩, ⟨y5, f5⟩⟩

theorem varSplit : VarSplit enc Try.prog w base spare held 9 3 51 := by
  intro fuel cs x h
  obtain ⟨xs, n, hn, _, hl, hlen, hf⟩ := DataW.trod_struct Try.underlying51 h
  rw [cV2] at hl
  match cs, hl with
  | [c0, c1], _ =>
    have f0 : DataW.trod enc Try.prog w base spare held n 9 (([c0, c1].drop 0).take (Try.prog.cellsOf 9)) = xs[0]? := hf 0 _ rfl
    have f1 : DataW.trod enc Try.prog w base spare held n 3 (([c0, c1].drop 1).take (Try.prog.cellsOf 3)) = xs[1]? := hf 1 _ rfl
    have hx : ∀ i, i < 2 → ∃ y, xs[i]? = some y := fun i hi => ⟨xs[i]'(by rw [hlen]; exact hi), List.getElem?_eq_getElem _⟩
    obtain ⟨y0, e0⟩ := hx 0 (by decide)
    obtain ⟨y1, e1⟩ := hx 1 (by decide)
    rw [e0, cStr] at f0
    rw [e1, cInt] at f1
    exact ⟨n, c0, c1, hn, rfl, ⟨y0, f0⟩, ⟨y1, f1⟩⟩

theorem prog_ofC {cs : Array Value} {d : DataW H} {ps : List MemPlace} (h : DataW.Trod enc Try.prog w base spare held 25 (.agg cs) d ps) : ∃ vs body, ProgV (fun b => b < w.heap.size) w (.agg cs) vs body ∧ CapB (.agg cs) := by
  obtain ⟨fuel, hf0⟩ := h
  obtain ⟨xs, n, _, _, hl, hlen, hf⟩ := DataW.trod_struct Try.underlying25 hf0
  rw [cP2] at hl
  have hl' : cs.toList.length = 2 := hl
  obtain ⟨c0, c1, hcs⟩ : ∃ c0 c1, cs.toList = [c0, c1] := by
    match cs.toList, hl' with
    | [c0, c1], _ => exact ⟨c0, c1, rfl⟩
  have f0 : DataW.trod enc Try.prog w base spare held n 22 ((cs.toList.drop 0).take (Try.prog.cellsOf 22)) = xs[0]? := hf 0 _ rfl
  have f1 : DataW.trod enc Try.prog w base spare held n 23 ((cs.toList.drop 1).take (Try.prog.cellsOf 23)) = xs[1]? := hf 1 _ rfl
  have hx : ∀ i, i < 2 → ∃ y, xs[i]? = some y := fun i hi => ⟨xs[i]'(by rw [hlen]; exact hi), List.getElem?_eq_getElem _⟩
  obtain ⟨y0, e0⟩ := hx 0 (by decide)
  obtain ⟨y1, e1⟩ := hx 1 (by decide)
  rw [e0, cLV, hcs] at f0
  rw [e1, cLS, hcs] at f1
  obtain ⟨vv, vs, hvv, hV⟩ := trod_vars Try.underlying9 Try.underlying3 Try.underlying22 cV2 varSplit f0
  obtain ⟨a, cap, L, cc, hc, hr, hq, hcap⟩ := open_rows (Q := StmtV (fun b => b < w.heap.size) w) 12 (by decide) Try.underlying23 cS12 (fun m _ cs x h => trod_stmt Try.underlying3 Try.underlying2 Try.underlying45 cE4 exprSplit Try.underlying23 cS12 stmtSplit m cs x h) f1
  simp at hvv hc
  subst hvv
  subst hc
  have hagg : Value.agg cs = .agg #[c0, .slice a L.length cap] := by
    congr 1
    apply Array.ext'
    rw [hcs]
  exact ⟨vs, L, ⟨c0, .slice a L.length cap, hagg, hV, a, cap, cc, rfl, hr, hq⟩, c0, a, L.length, cap, hagg, hcap⟩
theorem prog_of {cs : Array Value} {d : DataW H} {ps : List MemPlace} (h : DataW.Trod enc Try.prog w base spare held 25 (.agg cs) d ps) : ∃ vs body, ProgV (fun b => b < w.heap.size) w (.agg cs) vs body :=
  let ⟨vs, body, h, _⟩ := prog_ofC h
  ⟨vs, body, h⟩
end
end E
end Go.Proofs.Ytcgigfnbjmlhhad
