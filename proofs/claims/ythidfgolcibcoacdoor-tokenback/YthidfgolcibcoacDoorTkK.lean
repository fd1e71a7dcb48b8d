/- TokenBack walked: it tells true. -/
import Derived.Test.YthidfgolcibcoacDoorTkS
namespace Go.Proofs.YthidfgolcibcoacDoor
set_option maxRecDepth 20000
set_option maxHeartbeats 4000000
namespace E
open Go.Proofs

theorem joined_snoc : ∀ (a : List Tok) (t : Tok), joined (a ++ [t]) = joined a ++ (t.text ++ [32, 10])
  | [], t => by simp [joined]
  | x :: r, t => by
    simp only [List.cons_append, joined, joined_snoc r t, List.append_assoc]
theorem joined_append : ∀ (a b : List Tok), joined (a ++ b) = joined a ++ joined b
  | [], b => rfl
  | x :: r, b => by
    simp only [List.cons_append, joined, joined_append r b, List.append_assoc]
theorem joined_take (ts : List Tok) (i : Nat) : (joined (ts.take i)).length ≤ (joined ts).length := by
  have e : joined ts = joined (ts.take i) ++ joined (ts.drop i) := by rw [← joined_append, List.take_append_drop]
  rw [e, List.length_append]
  omega
theorem fault_cases (l : List UInt8) (hl : l.length ≤ 6000) : (∃ e : Nat, faultOf l = (7, ((e : Nat) : Int)) ∧ toksOf l = []) ∨ (∃ ts, scanOf l = .ok ts ∧ faultOf l = (0, 0) ∧ toksOf l = ts) := by
  cases h : scanOf l with
  | error e => exact .inl ⟨e, faultOf_error (by omega) h⟩
  | ok ts => exact .inr ⟨ts, rfl, faultOf_ok (by omega) h⟩

theorem back_ret (l : List UInt8) {w : World} (hw : Lw w) : Ret Tryd.prog 4 [.string (str l)] w fun r w' => r = .bool true ∧ Keep [] w w' := by
  refine ret_of 98 Tryd.func4 rfl rfl (by simp) ?_
  (repeat (first | refine pl_pure hT rfl rfl rfl ?_ | refine pl_nil ?_ | refine rn_seq ?_ | refine rn_plain ?_ | refine rn_block ?_ | refine rn_inBlock ?_ | refine rn_skip ?_ | refine rn_true rfl ?_ | refine rn_false rfl ?_ | refine rn_exit rfl ?_ | refine pl_not rfl rfl ?_))
  refine pl_op rfl rfl (opTo_call (fst := []) (cap := []) rfl rfl rfl rfl (by decide +kernel) ((begun_ret hw).mono ?_))
  rintro x w1 ⟨rfl, hk1⟩
  (repeat (first | refine pl_pure hT rfl rfl rfl ?_ | refine pl_nil ?_ | refine rn_seq ?_ | refine rn_plain ?_ | refine rn_block ?_ | refine rn_inBlock ?_ | refine rn_skip ?_ | refine rn_true rfl ?_ | refine rn_false rfl ?_ | refine rn_exit rfl ?_ | refine pl_not rfl rfl ?_))
  refine pl_val _ rfl rfl (val_len l (by decide +kernel) rfl rfl w1) ?_
  by_cases hgt : 2000 < l.length
  · refine pl_yes rfl rfl rfl rfl rfl (by first | (simp only [cmpP]; omega) | (simp [cmpP]; done) | (simp [cmpP]; omega)) ?_
    (repeat (first | refine pl_pure hT rfl rfl rfl ?_ | refine pl_nil ?_ | refine rn_seq ?_ | refine rn_plain ?_ | refine rn_block ?_ | refine rn_inBlock ?_ | refine rn_skip ?_ | refine rn_true rfl ?_ | refine rn_false rfl ?_ | refine rn_exit rfl ?_ | refine pl_not rfl rfl ?_))
    exact rn_ret Tryd.func4 (.inl ⟨_, rfl, rfl⟩) ⟨rfl, hk1⟩
  refine pl_no rfl rfl rfl rfl rfl rfl (by first | (simp only [cmpP]; omega) | (simp [cmpP]; done) | (simp [cmpP]; omega)) ?_
  (repeat (first | refine pl_pure hT rfl rfl rfl ?_ | refine pl_nil ?_ | refine rn_seq ?_ | refine rn_plain ?_ | refine rn_block ?_ | refine rn_inBlock ?_ | refine rn_skip ?_ | refine rn_true rfl ?_ | refine rn_false rfl ?_ | refine rn_exit rfl ?_ | refine pl_not rfl rfl ?_))
  refine pl_op rfl rfl (opTo_call (fst := []) (cap := []) rfl rfl rfl rfl (by decide +kernel) ((scan_ret l (by omega) (hw.keep hk1)).mono ?_))
  rintro x w2 ⟨v, rfl, hown, hk2⟩
  rcases fault_cases l (by omega) with ⟨e, hf, ht⟩ | ⟨ts, hscan, hf, ht⟩
  · rw [hf]
    rw [ht] at hown
    (repeat (first | refine pl_pure hT rfl rfl rfl ?_ | refine pl_nil ?_ | refine rn_seq ?_ | refine rn_plain ?_ | refine rn_block ?_ | refine rn_inBlock ?_ | refine rn_skip ?_ | refine rn_true rfl ?_ | refine rn_false rfl ?_ | refine rn_exit rfl ?_ | refine pl_not rfl rfl ?_))
    refine pl_op rfl rfl (opTo_allocN _ rfl zero_fault ?_)
    intro w3 a ha hs3 hk3 hA3
    (repeat (first | refine pl_pure hT rfl rfl rfl ?_ | refine pl_nil ?_ | refine rn_seq ?_ | refine rn_plain ?_ | refine rn_block ?_ | refine rn_inBlock ?_ | refine rn_skip ?_ | refine rn_true rfl ?_ | refine rn_false rfl ?_ | refine rn_exit rfl ?_ | refine pl_not rfl rfl ?_))
    refine pl_op rfl rfl (opTo_storeN [.int .i64 7, .int .i64 ((e : Nat) : Int)] rfl rfl rfl rfl size_fault hA3 (by simp) (one_fault _ _) ?_)
    intro w4 hs4 hk4 hA4
    rw [splice_whole (by rfl)] at hA4
    have hk04 : Keep [] w w4 := (hk1.tr hk2).tr (hk3.trB hk4 (by omega))
    obtain ⟨av, cv, rfl⟩ := hown.form
    (repeat (first | refine pl_pure hT rfl rfl rfl ?_ | refine pl_nil ?_ | refine rn_seq ?_ | refine rn_plain ?_ | refine rn_block ?_ | refine rn_inBlock ?_ | refine rn_skip ?_ | refine rn_true rfl ?_ | refine rn_false rfl ?_ | refine rn_exit rfl ?_ | refine pl_not rfl rfl ?_))
    refine pl_val _ rfl rfl (val_load1 hT rfl rfl rfl (hA4.cell rfl)) ?_
    refine pl_yes rfl rfl rfl rfl rfl (by first | (simp only [cmpP]; omega) | (simp [cmpP]; done) | (simp [cmpP]; omega)) ?_
    (repeat (first | refine pl_pure hT rfl rfl rfl ?_ | refine pl_nil ?_ | refine rn_seq ?_ | refine rn_plain ?_ | refine rn_block ?_ | refine rn_inBlock ?_ | refine rn_skip ?_ | refine rn_true rfl ?_ | refine rn_false rfl ?_ | refine rn_exit rfl ?_ | refine pl_not rfl rfl ?_))
    refine pl_yes rfl rfl rfl rfl rfl (by first | (simp only [cmpP]; omega) | (simp [cmpP]; done) | (simp [cmpP]; omega)) ?_
    (repeat (first | refine pl_pure hT rfl rfl rfl ?_ | refine pl_nil ?_ | refine rn_seq ?_ | refine rn_plain ?_ | refine rn_block ?_ | refine rn_inBlock ?_ | refine rn_skip ?_ | refine rn_true rfl ?_ | refine rn_false rfl ?_ | refine rn_exit rfl ?_ | refine pl_not rfl rfl ?_))
    exact rn_ret Tryd.func4 (.inl ⟨_, rfl, rfl⟩) ⟨rfl, hk04⟩
  rw [hf]
  rw [ht] at hown
  obtain ⟨us, hback, hsame, hjl⟩ := scan_back hscan
  have hjl : (joined ts).length ≤ 6000 := by omega
  have htl : ts.length ≤ 1000000 := by
    have := toksOf_len l
    rw [ht] at this
    exact this
  obtain ⟨hf2, ht2⟩ := faultOf_ok (by omega) hback
  have hul := same3_length us ts hsame
  (repeat (first | refine pl_pure hT rfl rfl rfl ?_ | refine pl_nil ?_ | refine rn_seq ?_ | refine rn_plain ?_ | refine rn_block ?_ | refine rn_inBlock ?_ | refine rn_skip ?_ | refine rn_true rfl ?_ | refine rn_false rfl ?_ | refine rn_exit rfl ?_ | refine pl_not rfl rfl ?_))
  refine pl_op rfl rfl (opTo_allocN _ rfl zero_fault ?_)
  intro w3 a ha hs3 hk3 hA3
  (repeat (first | refine pl_pure hT rfl rfl rfl ?_ | refine pl_nil ?_ | refine rn_seq ?_ | refine rn_plain ?_ | refine rn_block ?_ | refine rn_inBlock ?_ | refine rn_skip ?_ | refine rn_true rfl ?_ | refine rn_false rfl ?_ | refine rn_exit rfl ?_ | refine pl_not rfl rfl ?_))
  refine pl_op rfl rfl (opTo_storeN [.int .i64 0, .int .i64 0] rfl rfl rfl rfl size_fault hA3 (by simp) (one_fault _ _) ?_)
  intro w4 hs4 hk4 hA4
  rw [splice_whole (by rfl)] at hA4
  have hk24 : Keep [] w2 w4 := hk3.trB hk4 (by omega)
  have hown4 := hown.keep hk24 (by simp)
  have hk04 := (hk1.tr hk2).tr hk24
  obtain ⟨av, cv, rfl⟩ := hown4.form
  (repeat (first | refine pl_pure hT rfl rfl rfl ?_ | refine pl_nil ?_ | refine rn_seq ?_ | refine rn_plain ?_ | refine rn_block ?_ | refine rn_inBlock ?_ | refine rn_skip ?_ | refine rn_true rfl ?_ | refine rn_false rfl ?_ | refine rn_exit rfl ?_ | refine pl_not rfl rfl ?_))
  refine pl_val _ rfl rfl (val_load1 hT rfl rfl rfl (hA4.cell rfl)) ?_
  refine pl_no rfl rfl rfl rfl rfl rfl (by first | (simp only [cmpP]; omega) | (simp [cmpP]; done) | (simp [cmpP]; omega)) ?_
  (repeat (first | refine pl_pure hT rfl rfl rfl ?_ | refine pl_not rfl rfl ?_ | refine pl_nil ?_ | refine rn_inBlock ?_ | refine rn_skip ?_ | refine rn_true rfl ?_ | refine rn_false rfl ?_ | refine rn_exit rfl ?_))
  refine rn_seq ?_
  refine rn_plain ?_
  (repeat (first | refine pl_pure hT rfl rfl rfl ?_ | refine pl_not rfl rfl ?_ | refine pl_nil ?_ | refine rn_inBlock ?_ | refine rn_skip ?_ | refine rn_true rfl ?_ | refine rn_false rfl ?_ | refine rn_exit rfl ?_))
  refine rn_seq ?_
  refine rn_seq ?_
  refine rn_plain ?_
  (repeat (first | refine pl_pure hT rfl rfl rfl ?_ | refine pl_not rfl rfl ?_ | refine pl_nil ?_ | refine rn_inBlock ?_ | refine rn_skip ?_ | refine rn_true rfl ?_ | refine rn_false rfl ?_ | refine rn_exit rfl ?_))
  refine rn_with (fun σ' w' => w' = w4 ∧ Sub [(3, .slice av ts.length cv), (5, .string (str (joined ts)))] σ') ?_ ?_
  rotate_left
  · intro fin
    refine rn_block ?_
    refine rn_ind (fun m σ w' => ∃ i : Nat, i ≤ ts.length ∧ m = ts.length - i ∧ σ = [(3, .slice av ts.length cv), (5, .string (str (joined (ts.take i)))), (6, .int .i64 (i : Nat))] ∧ w' = w4) ts.length _ ?_ ⟨0, by omega, by omega, rfl, rfl⟩ ?_
    · exact ⟨rfl, rfl, rfl, trivial⟩
    rintro m σ w5 ih ⟨i, hi, rfl, rfl, rfl⟩
    (repeat (first | refine pl_pure hT rfl rfl rfl ?_ | refine pl_nil ?_ | refine rn_seq ?_ | refine rn_plain ?_ | refine rn_block ?_ | refine rn_inBlock ?_ | refine rn_skip ?_ | refine rn_true rfl ?_ | refine rn_false rfl ?_ | refine rn_exit rfl ?_ | refine pl_not rfl rfl ?_))
    by_cases hlt : i < ts.length
    · refine pl_yes rfl rfl rfl rfl rfl (by first | (simp only [cmpP]; omega) | (simp [cmpP]; done) | (simp [cmpP]; omega)) ?_
      (repeat (first | refine pl_pure hT rfl rfl rfl ?_ | refine pl_nil ?_ | refine rn_seq ?_ | refine rn_plain ?_ | refine rn_block ?_ | refine rn_inBlock ?_ | refine rn_skip ?_ | refine rn_true rfl ?_ | refine rn_false rfl ?_ | refine rn_exit rfl ?_ | refine pl_not rfl rfl ?_))
      obtain ⟨g1, c1, e1, hr1⟩ := tok_range hown4 rfl (List.getElem?_eq_getElem hlt)
      obtain ⟨t, ht⟩ : ∃ t, t = ts[i] := ⟨_, rfl⟩
      rw [← ht] at hr1
      have hjoin : joined (ts.take (i + 1)) = joined (ts.take i) ++ (t.text ++ [32, 10]) := by
        rw [List.take_succ_eq_append_getElem hlt, joined_snoc, ← ht]
      have hb := joined_take ts (i + 1)
      rw [hjoin, List.length_append, List.length_append] at hb
      injection e1 with e1 _ e1'
      subst e1 e1'
      refine pl_val _ rfl rfl (val_index i hT rfl rfl rfl rfl rfl hlt w5) ?_
      (repeat (first | refine pl_pure hT rfl rfl rfl ?_ | refine pl_nil ?_ | refine rn_seq ?_ | refine rn_plain ?_ | refine rn_block ?_ | refine rn_inBlock ?_ | refine rn_skip ?_ | refine rn_true rfl ?_ | refine rn_false rfl ?_ | refine rn_exit rfl ?_ | refine pl_not rfl rfl ?_))
      refine pl_val _ rfl rfl (val_load1 hT rfl rfl rfl (hr1 1 _ rfl)) ?_
      refine pl_val _ rfl rfl (val_add t.text [32, 10] rfl rfl rfl (by simp only [List.length_cons, List.length_nil] at hb ⊢; omega) w5) ?_
      refine pl_val _ rfl rfl (val_add (joined (ts.take i)) (t.text ++ [32, 10]) rfl rfl rfl (by rw [List.length_append]; omega) w5) ?_
      (repeat (first | refine pl_pure hT rfl rfl rfl ?_ | refine pl_nil ?_ | refine rn_seq ?_ | refine rn_plain ?_ | refine rn_block ?_ | refine rn_inBlock ?_ | refine rn_skip ?_ | refine rn_true rfl ?_ | refine rn_false rfl ?_ | refine rn_exit rfl ?_ | refine pl_not rfl rfl ?_))
      refine pl_num (((i + 1 : Nat) : Int)) rfl rfl rfl rfl rfl (by simp only [ariP]; omega) ?_
      (repeat (first | refine pl_pure hT rfl rfl rfl ?_ | refine pl_nil ?_ | refine rn_seq ?_ | refine rn_plain ?_ | refine rn_block ?_ | refine rn_inBlock ?_ | refine rn_skip ?_ | refine rn_true rfl ?_ | refine rn_false rfl ?_ | refine rn_exit rfl ?_ | refine pl_not rfl rfl ?_))
      refine rn_sub ?_ (ih _ _ _ ?_ ⟨i + 1, hlt, rfl, rfl, rfl⟩)
      · exact ⟨rfl, by rw [hjoin]; rfl, rfl, trivial⟩
      · omega
    · refine pl_no rfl rfl rfl rfl rfl rfl (by first | (simp only [cmpP]; omega) | (simp [cmpP]; done) | (simp [cmpP]; omega)) ?_
      have e : i = ts.length := by omega
      rw [e, List.take_length]
      (repeat (first | refine pl_pure hT rfl rfl rfl ?_ | refine pl_not rfl rfl ?_ | refine pl_nil ?_ | refine rn_inBlock ?_ | refine rn_skip ?_ | refine rn_true rfl ?_ | refine rn_false rfl ?_ | refine rn_exit rfl ?_))
      exact fin _ _ ⟨rfl, rfl, rfl, trivial⟩
  rintro σ' w5 ⟨rfl, hsub⟩
  refine rn_sub hsub ?_
  (repeat (first | refine pl_pure hT rfl rfl rfl ?_ | refine pl_nil ?_ | refine rn_seq ?_ | refine rn_plain ?_ | refine rn_block ?_ | refine rn_inBlock ?_ | refine rn_skip ?_ | refine rn_true rfl ?_ | refine rn_false rfl ?_ | refine rn_exit rfl ?_ | refine pl_not rfl rfl ?_))
  refine pl_op rfl rfl (opTo_call (fst := []) (cap := []) rfl rfl rfl rfl (by decide +kernel) ((scan_ret (joined ts) (by omega) (hw.keep hk04)).mono ?_))
  rintro x w6 ⟨u, rfl, hownU, hk6⟩
  rw [hf2]
  rw [ht2] at hownU
  (repeat (first | refine pl_pure hT rfl rfl rfl ?_ | refine pl_nil ?_ | refine rn_seq ?_ | refine rn_plain ?_ | refine rn_block ?_ | refine rn_inBlock ?_ | refine rn_skip ?_ | refine rn_true rfl ?_ | refine rn_false rfl ?_ | refine rn_exit rfl ?_ | refine pl_not rfl rfl ?_))
  refine pl_op rfl rfl (opTo_allocN _ rfl zero_fault ?_)
  intro w7 c hc hs7 hk7 hC7
  (repeat (first | refine pl_pure hT rfl rfl rfl ?_ | refine pl_nil ?_ | refine rn_seq ?_ | refine rn_plain ?_ | refine rn_block ?_ | refine rn_inBlock ?_ | refine rn_skip ?_ | refine rn_true rfl ?_ | refine rn_false rfl ?_ | refine rn_exit rfl ?_ | refine pl_not rfl rfl ?_))
  refine pl_op rfl rfl (opTo_storeN [.int .i64 0, .int .i64 0] rfl rfl rfl rfl size_fault hC7 (by simp) (one_fault _ _) ?_)
  intro w8 hs8 hk8 hC8
  rw [splice_whole (by rfl)] at hC8
  have hk68 : Keep [] w6 w8 := hk7.trB hk8 (by omega)
  have hownU8 := hownU.keep hk68 (by simp)
  have hown8 := (hown4.keep hk6 (by simp)).keep hk68 (by simp)
  have hk08 := (hk04.tr hk6).tr hk68
  obtain ⟨au, cu, rfl⟩ := hownU8.form
  (repeat (first | refine pl_pure hT rfl rfl rfl ?_ | refine pl_nil ?_ | refine rn_seq ?_ | refine rn_plain ?_ | refine rn_block ?_ | refine rn_inBlock ?_ | refine rn_skip ?_ | refine rn_true rfl ?_ | refine rn_false rfl ?_ | refine rn_exit rfl ?_ | refine pl_not rfl rfl ?_))
  refine pl_val _ rfl rfl (val_load1 hT rfl rfl rfl (hC8.cell rfl)) ?_
  refine pl_no rfl rfl rfl rfl rfl rfl (by first | (simp only [cmpP]; omega) | (simp [cmpP]; done) | (simp [cmpP]; omega)) ?_
  (repeat (first | refine pl_pure hT rfl rfl rfl ?_ | refine pl_nil ?_ | refine rn_seq ?_ | refine rn_plain ?_ | refine rn_block ?_ | refine rn_inBlock ?_ | refine rn_skip ?_ | refine rn_true rfl ?_ | refine rn_false rfl ?_ | refine rn_exit rfl ?_ | refine pl_not rfl rfl ?_))
  refine pl_no rfl rfl rfl rfl rfl rfl (by first | (simp only [cmpP]; omega) | (simp [cmpP]; done) | (simp [cmpP]; omega)) ?_
  (repeat (first | refine pl_pure hT rfl rfl rfl ?_ | refine pl_nil ?_ | refine rn_seq ?_ | refine rn_plain ?_ | refine rn_block ?_ | refine rn_inBlock ?_ | refine rn_skip ?_ | refine rn_true rfl ?_ | refine rn_false rfl ?_ | refine rn_exit rfl ?_ | refine pl_not rfl rfl ?_))
  refine rn_ind (fun m σ w' => ∃ i : Nat, i ≤ ts.length ∧ m = ts.length - i ∧ σ = [(3, .slice av ts.length cv), (7, .slice au us.length cu), (9, .int .i64 (i : Nat))] ∧ Own w' w1.heap.size 32 4 (.slice av ts.length cv) ts.length (ts.flatMap tokL) ∧ Own w' w5.heap.size 32 4 (.slice au us.length cu) us.length (us.flatMap tokL) ∧ Keep [] w w') ts.length _ ?_
    ⟨0, by omega, by omega, rfl, hown8, hownU8, hk08⟩ ?_
  · exact ⟨rfl, rfl, rfl, trivial⟩
  rintro m σ w9 ih ⟨i, hi, rfl, rfl, hown9, hownU9, hk9⟩
  (repeat (first | refine pl_pure hT rfl rfl rfl ?_ | refine pl_nil ?_ | refine rn_seq ?_ | refine rn_plain ?_ | refine rn_block ?_ | refine rn_inBlock ?_ | refine rn_skip ?_ | refine rn_true rfl ?_ | refine rn_false rfl ?_ | refine rn_exit rfl ?_ | refine pl_not rfl rfl ?_))
  by_cases hlt : i < ts.length
  · have hltu : i < us.length := by omega
    refine pl_yes rfl rfl rfl rfl rfl (by first | (simp only [cmpP]; omega) | (simp [cmpP]; done) | (simp [cmpP]; omega)) ?_
    (repeat (first | refine pl_pure hT rfl rfl rfl ?_ | refine pl_nil ?_ | refine rn_seq ?_ | refine rn_plain ?_ | refine rn_block ?_ | refine rn_inBlock ?_ | refine rn_skip ?_ | refine rn_true rfl ?_ | refine rn_false rfl ?_ | refine rn_exit rfl ?_ | refine pl_not rfl rfl ?_))
    obtain ⟨g1, c1, e1, hr1⟩ := tok_range hown9 rfl (List.getElem?_eq_getElem hlt)
    obtain ⟨g2, c2, e2, hr2⟩ := tok_range hownU9 rfl (List.getElem?_eq_getElem hltu)
    obtain ⟨s1, s2, s3⟩ := same3_get us ts hsame i hltu hlt
    obtain ⟨t, ht⟩ : ∃ t, t = ts[i] := ⟨_, rfl⟩
    obtain ⟨y, hy⟩ : ∃ y, y = us[i] := ⟨_, rfl⟩
    rw [← ht] at hr1
    rw [← hy] at hr2
    rw [← ht, ← hy] at s1 s2 s3
    have ey : tokL y = tokC (y.pos : Nat) t.text t.num t.val := by
      unfold tokL
      rw [s1, s2, s3]
    rw [ey] at hr2
    injection e1 with e1 _ e1'
    injection e2 with e2 _ e2'
    subst e1 e1' e2 e2'
    refine rn_draw (fun w' => w'.rangeAt g1 (0 + i * 4) (tokL t) ∧ w'.rangeAt g2 (0 + i * 4) (tokC (y.pos : Nat) t.text t.num t.val)) [] hMix ?_
    have hS : w9.drew.rangeAt g1 (0 + i * 4) (tokL t) ∧ w9.drew.rangeAt g2 (0 + i * 4) (tokC (y.pos : Nat) t.text t.num t.val) := ⟨hr1, hr2⟩
    refine dr_pure 0 hT rfl (by decide +kernel) rfl rfl rfl ?_
    refine dr_pure 1 hT rfl (by decide +kernel) rfl rfl rfl ?_
    refine dr_any 2 _ rfl (by decide +kernel) rfl rfl (fun w => val_index i hT rfl rfl rfl rfl rfl hltu w) ?_
    refine dr_pure 3 hT rfl (by decide +kernel) rfl rfl rfl ?_
    refine dr_val 4 _ rfl (by decide +kernel) rfl rfl (fun w9 hS9 => val_load1 hT rfl rfl rfl (hS9.2 1 _ rfl)) hS ?_
    refine dr_pure 5 hT rfl (by decide +kernel) rfl rfl rfl ?_
    refine dr_pure 6 hT rfl (by decide +kernel) rfl rfl rfl ?_
    refine dr_any 7 _ rfl (by decide +kernel) rfl rfl (fun w => val_index i hT rfl rfl rfl rfl rfl hlt w) ?_
    refine dr_pure 8 hT rfl (by decide +kernel) rfl rfl rfl ?_
    refine dr_val 9 _ rfl (by decide +kernel) rfl rfl (fun w9 hS9 => val_load1 hT rfl rfl rfl (hS9.1 1 _ rfl)) hS ?_
    refine dr_any 10 _ rfl (by decide +kernel) rfl rfl (fun w => val_neS t.text t.text false rfl rfl rfl (by simp) w) ?_
    refine dr_pure 11 hT rfl (by decide +kernel) rfl rfl rfl ?_
    refine dr_pure 12 hT rfl (by decide +kernel) rfl rfl rfl ?_
    refine dr_pure 13 hT rfl (by decide +kernel) rfl rfl rfl ?_
    refine dr_any 14 _ rfl (by decide +kernel) rfl rfl (fun w => val_index i hT rfl rfl rfl rfl rfl hltu w) ?_
    refine dr_pure 15 hT rfl (by decide +kernel) rfl rfl rfl ?_
    refine dr_val 16 _ rfl (by decide +kernel) rfl rfl (fun w9 hS9 => val_load1 hT rfl rfl rfl (hS9.2 2 _ rfl)) hS ?_
    refine dr_pure 17 hT rfl (by decide +kernel) rfl rfl rfl ?_
    refine dr_pure 18 hT rfl (by decide +kernel) rfl rfl rfl ?_
    refine dr_any 19 _ rfl (by decide +kernel) rfl rfl (fun w => val_index i hT rfl rfl rfl rfl rfl hlt w) ?_
    refine dr_pure 20 hT rfl (by decide +kernel) rfl rfl rfl ?_
    refine dr_val 21 _ rfl (by decide +kernel) rfl rfl (fun w9 hS9 => val_load1 hT rfl rfl rfl (hS9.1 2 _ rfl)) hS ?_
    refine dr_any 22 _ rfl (by decide +kernel) rfl rfl (fun w => val_neBool t.num t.num false (by decide +kernel) rfl rfl rfl (by simp) w) ?_
    refine dr_pure 23 hT rfl (by decide +kernel) rfl rfl rfl ?_
    refine dr_pure 24 hT rfl (by decide +kernel) rfl rfl rfl ?_
    refine dr_pure 25 hT rfl (by decide +kernel) rfl rfl rfl ?_
    refine dr_pure 26 hT rfl (by decide +kernel) rfl rfl rfl ?_
    refine dr_any 27 _ rfl (by decide +kernel) rfl rfl (fun w => val_index i hT rfl rfl rfl rfl rfl hltu w) ?_
    refine dr_pure 28 hT rfl (by decide +kernel) rfl rfl rfl ?_
    refine dr_val 29 _ rfl (by decide +kernel) rfl rfl (fun w9 hS9 => val_load1 hT rfl rfl rfl (hS9.2 3 _ rfl)) hS ?_
    refine dr_pure 30 hT rfl (by decide +kernel) rfl rfl rfl ?_
    refine dr_pure 31 hT rfl (by decide +kernel) rfl rfl rfl ?_
    refine dr_any 32 _ rfl (by decide +kernel) rfl rfl (fun w => val_index i hT rfl rfl rfl rfl rfl hlt w) ?_
    refine dr_pure 33 hT rfl (by decide +kernel) rfl rfl rfl ?_
    refine dr_val 34 _ rfl (by decide +kernel) rfl rfl (fun w9 hS9 => val_load1 hT rfl rfl rfl (hS9.1 3 _ rfl)) hS ?_
    refine dr_no 35 rfl (by decide +kernel) rfl rfl rfl rfl rfl rfl (by first | (simp only [cmpP]; omega) | (simp [cmpP]; done) | (simp [cmpP]; omega)) ?_
    refine dr_pure 36 hT rfl (by decide +kernel) rfl rfl rfl ?_
    refine dr_done (by decide +kernel) ?_
    (repeat (first | refine pl_pure hT rfl rfl rfl ?_ | refine pl_nil ?_ | refine rn_seq ?_ | refine rn_plain ?_ | refine rn_block ?_ | refine rn_inBlock ?_ | refine rn_skip ?_ | refine rn_true rfl ?_ | refine rn_false rfl ?_ | refine rn_exit rfl ?_ | refine pl_not rfl rfl ?_))
    refine pl_num (((i + 1 : Nat) : Int)) rfl rfl rfl rfl rfl (by simp only [ariP]; omega) ?_
    (repeat (first | refine pl_pure hT rfl rfl rfl ?_ | refine pl_nil ?_ | refine rn_seq ?_ | refine rn_plain ?_ | refine rn_block ?_ | refine rn_inBlock ?_ | refine rn_skip ?_ | refine rn_true rfl ?_ | refine rn_false rfl ?_ | refine rn_exit rfl ?_ | refine pl_not rfl rfl ?_))
    have hkd : Keep [] w9 w9.drew := (Keep.refl _ _).drew
    refine rn_sub ?_ (ih _ _ _ ?_ ⟨i + 1, hlt, rfl, rfl, hown9.keep hkd (by simp), hownU9.keep hkd (by simp), hk9.tr hkd⟩)
    · exact ⟨rfl, rfl, rfl, trivial⟩
    · omega
  · refine pl_no rfl rfl rfl rfl rfl rfl (by first | (simp only [cmpP]; omega) | (simp [cmpP]; done) | (simp [cmpP]; omega)) ?_
    (repeat (first | refine pl_pure hT rfl rfl rfl ?_ | refine pl_nil ?_ | refine rn_seq ?_ | refine rn_plain ?_ | refine rn_block ?_ | refine rn_inBlock ?_ | refine rn_skip ?_ | refine rn_true rfl ?_ | refine rn_false rfl ?_ | refine rn_exit rfl ?_ | refine pl_not rfl rfl ?_))
    exact rn_ret Tryd.func4 (.inl ⟨_, rfl, rfl⟩) ⟨rfl, hk9⟩
end E
end Go.Proofs.YthidfgolcibcoacDoor
