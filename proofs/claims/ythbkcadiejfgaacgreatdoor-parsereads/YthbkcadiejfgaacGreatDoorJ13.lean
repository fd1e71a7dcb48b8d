/- Several texts in one: RpC, RpD, RpE. -/
import Derived.Test.YthbkcadiejfgaacGreatDoorRpB
import Derived.Test.YthbkcadiejfgaacGreatDoorJ05
import Derived.Test.YthbkcadiejfgaacGreatDoorJ06
/- Contracts of the document's reader, third part: WordOf, VerbOf, variable, begin. -/
namespace Go.Proofs.YthbkcadiejfgaacGreatDoor
set_option maxRecDepth 20000
set_option maxHeartbeats 4000000
namespace E
open Go.Proofs

/-- What begin and variable tell. -/
def IdxR (w : World) (b : Nat) (lv vv : Value) (fin : Nat) (r : Value) : Except Flt (Nat × Nat) → Prop
  | .ok (k, j) => r = .int .i64 (k : Nat) ∧ Rs w b lv vv fin (.ok j)
  | .error e => r = .int .i64 0 ∧ Rs w b lv vv fin (.error e)

theorem rBegin_ret {w : World} {b fin g : Nat} {lv vv : Value} {ts : List Tok} {vs : List VarT} {i : Nat} {of : Nat → List UInt8} {most : Nat} (hx : Cx w lv vv ts vs) (h : Rs w b lv vv fin (.ok i)) (deep : Nat) (hdeep : deep ≤ 1000) (hmost : most ≤ 1000) (hg : callable Tryz.prog g = true)
    (hof : ∀ (k : Nat) (w : World), 1 ≤ k → k ≤ most → Ret Tryz.prog g [.int .i64 (k : Nat)] w fun r w' => r = .string (str (of k)) ∧ Keep [] w w') :
    Ret Tryz.prog 41 [.pointer (some ⟨b, 0, none⟩), .int .i64 (deep : Nat), .int .i64 (most : Nat), .func (.func g) #[] #[]] w fun r w' =>
      IdxR w' b lv vv fin r (bnd (if 12 < deep then .error (wrongAt ts fin 4 i) else .ok i) (beginP ts fin of most)) ∧ Keep [b] w w' := by
  refine ret_of 36 Tryz.func41 rfl rfl (by simp) ?_
  (repeat (first | refine pl_pure hT rfl rfl rfl ?_ | refine pl_nil ?_ | refine rn_seq ?_ | refine rn_plain ?_ | refine rn_block ?_ | refine rn_inBlock ?_ | refine rn_skip ?_ | refine rn_true rfl ?_ | refine rn_false rfl ?_ | refine rn_exit rfl ?_ | refine pl_not rfl rfl ?_))
  obtain ⟨x0, hx0⟩ : ∃ x0 : Except Flt Nat, x0 = if 12 < deep then .error (wrongAt ts fin 4 i) else .ok i := ⟨_, rfl⟩
  rw [← hx0]
  have main : ∀ (x1 : Except Flt Nat), x1 = bnd x0 (mustP ts fin [40]) → bnd x0 (beginP ts fin of most) = bnd x1 fun j => match pickK ts of j 1 most with
      | some k => .ok (k, j + 1)
      | none => .error (wrongAt ts fin 5 j) := by
    intro x1 h1
    subst h1
    unfold beginP
    cases x0 <;> rfl
  have hlen := hx.len
  by_cases hd : 12 < deep
  · rw [if_pos hd] at hx0
    refine pl_yes rfl rfl rfl rfl rfl (by first | (simp only [cmpP]; omega) | (simp [cmpP]; done) | (simp [cmpP]; omega)) ?_
    (repeat (first | refine pl_pure hT rfl rfl rfl ?_ | refine pl_nil ?_ | refine rn_seq ?_ | refine rn_plain ?_ | refine rn_block ?_ | refine rn_inBlock ?_ | refine rn_skip ?_ | refine rn_true rfl ?_ | refine rn_false rfl ?_ | refine rn_exit rfl ?_ | refine pl_not rfl rfl ?_))
    refine pl_op rfl rfl (opTo_call (fst := []) (cap := []) rfl rfl rfl rfl (by decide +kernel) ((rWrong_ret hx h 4 (by decide)).mono ?_))
    rintro r w1 ⟨hr1, hk1⟩
    have hcx1 := hx.keepR h hk1
    have hr1' : Rs w1 b lv vv fin x0 := by rw [hx0]; exact hr1
    (repeat (first | refine pl_pure hT rfl rfl rfl ?_ | refine pl_nil ?_ | refine rn_seq ?_ | refine rn_plain ?_ | refine rn_block ?_ | refine rn_inBlock ?_ | refine rn_skip ?_ | refine rn_true rfl ?_ | refine rn_false rfl ?_ | refine rn_exit rfl ?_ | refine pl_not rfl rfl ?_))
    refine pl_op rfl rfl (opTo_call (fst := []) (cap := []) rfl rfl rfl rfl (by decide +kernel) ((rMust_ret hcx1 hr1' [40]).mono ?_))
    rintro r w2 ⟨hr2, hk2⟩
    have hcx2 := hcx1.keepR hr1' hk2
    have hk02 := hk1.tr hk2
    obtain ⟨x1, hx1⟩ : ∃ x1, x1 = bnd x0 (mustP ts fin [40]) := ⟨_, rfl⟩
    rw [main x1 hx1]
    rw [← hx1] at hr2
    (repeat (first | refine pl_pure hT rfl rfl rfl ?_ | refine pl_nil ?_ | refine rn_seq ?_ | refine rn_plain ?_ | refine rn_block ?_ | refine rn_inBlock ?_ | refine rn_skip ?_ | refine rn_true rfl ?_ | refine rn_false rfl ?_ | refine rn_exit rfl ?_ | refine pl_not rfl rfl ?_))
    refine rn_ind (fun m σ w' => ∃ k : Nat, 1 ≤ k ∧ k ≤ most + 1 ∧ m = most + 1 - k ∧ σ = [(0, .pointer (some ⟨b, 0, none⟩)), (2, .int .i64 (most : Nat)), (3, .func (.func g) #[] #[]), (9, .int .i64 (k : Nat))] ∧ (∀ j, x1 = .ok j → pickK ts of j 1 most = pickK ts of j k (most + 1 - k)) ∧
      Rs w' b lv vv fin x1 ∧ Cx w' lv vv ts vs ∧ Keep [b] w w') most _ ?_ ⟨1, by omega, by omega, by omega, rfl, fun j _ => by rw [Nat.add_sub_cancel], hr2, hcx2, hk02⟩ ?_
    · exact ⟨rfl, rfl, rfl, rfl, trivial⟩
    rintro m σ w3 ih ⟨k, hk1, hk2', rfl, rfl, hpick, hr3, hcx3, hk3⟩
    (repeat (first | refine pl_pure hT rfl rfl rfl ?_ | refine pl_nil ?_ | refine rn_seq ?_ | refine rn_plain ?_ | refine rn_block ?_ | refine rn_inBlock ?_ | refine rn_skip ?_ | refine rn_true rfl ?_ | refine rn_false rfl ?_ | refine rn_exit rfl ?_ | refine pl_not rfl rfl ?_))
    by_cases hle : k ≤ most
    · refine pl_yes rfl rfl rfl rfl rfl (by first | (simp only [cmpP]; omega) | (simp [cmpP]; done) | (simp [cmpP]; omega)) ?_
      (repeat (first | refine pl_pure hT rfl rfl rfl ?_ | refine pl_nil ?_ | refine rn_seq ?_ | refine rn_plain ?_ | refine rn_block ?_ | refine rn_inBlock ?_ | refine rn_skip ?_ | refine rn_true rfl ?_ | refine rn_false rfl ?_ | refine rn_exit rfl ?_ | refine pl_not rfl rfl ?_))
      refine pl_op rfl rfl (opTo_call (fst := []) (cap := []) rfl rfl rfl rfl hg ((hof k w3 hk1 hle).mono ?_))
      rintro r w4 ⟨rfl, hk4⟩
      have hr4 := hr3.keep hk4 (by simp)
      have hcx4 := hcx3.keep0 hk4
      refine pl_op rfl rfl (opTo_call (fst := []) (cap := []) rfl rfl rfl rfl (by decide +kernel) ((rIs_ret hcx4 hr4 (of k)).mono ?_))
      rintro r w5 ⟨rfl, hk5⟩
      have hr5 := hr4.keep hk5 (by simp)
      have hcx5 := hcx4.keep0 hk5
      have hk05 := (hk3.tr0 hk4).tr0 hk5
      obtain ⟨q, hq⟩ : ∃ q, q = isX ts x1 (of k) := ⟨_, rfl⟩
      rw [← hq]
      have estep : most + 1 - k = (most + 1 - (k + 1)) + 1 := by omega
      cases q with
      | true =>
        cases x1 with
        | error e => cases hq
        | ok j =>
          have hq' : isT ts j (of k) = true := hq.symm
          have hlt := isT_lt hq'
          have hb5 : Blk w5 b (rgC lv vv fin j (0, 0)) 53 := hr5
          (repeat (first | refine pl_pure hT rfl rfl rfl ?_ | refine pl_nil ?_ | refine rn_seq ?_ | refine rn_plain ?_ | refine rn_block ?_ | refine rn_inBlock ?_ | refine rn_skip ?_ | refine rn_true rfl ?_ | refine rn_false rfl ?_ | refine rn_exit rfl ?_ | refine pl_not rfl rfl ?_))
          refine pl_val _ rfl rfl (val_load1 hT rfl rfl rfl (Blk.cell hb5 (by rfl))) ?_
          refine pl_num (((j + 1 : Nat) : Int)) rfl rfl rfl rfl rfl (by simp only [ariP]; omega) ?_
          (repeat (first | refine pl_pure hT rfl rfl rfl ?_ | refine pl_nil ?_ | refine rn_seq ?_ | refine rn_plain ?_ | refine rn_block ?_ | refine rn_inBlock ?_ | refine rn_skip ?_ | refine rn_true rfl ?_ | refine rn_false rfl ?_ | refine rn_exit rfl ?_ | refine pl_not rfl rfl ?_))
          refine pl_op rfl rfl (opTo_storeN [.int .i64 ((j + 1 : Nat) : Int)] rfl rfl rfl rfl size_int hb5 (by simp [rgC]) (by simp; rfl) ?_)
          intro w6 hs6 hk6 hb6
          rw [rgC_next] at hb6
          (repeat (first | refine pl_pure hT rfl rfl rfl ?_ | refine pl_nil ?_ | refine rn_seq ?_ | refine rn_plain ?_ | refine rn_block ?_ | refine rn_inBlock ?_ | refine rn_skip ?_ | refine rn_true rfl ?_ | refine rn_false rfl ?_ | refine rn_exit rfl ?_ | refine pl_not rfl rfl ?_))
          refine rn_ret Tryz.func41 (.inl ⟨_, rfl, rfl⟩) ⟨?_, hk05.tr hk6⟩
          show IdxR _ _ _ _ _ _ (match pickK ts of j 1 most with | some k => _ | none => _)
          rw [hpick j rfl, estep]
          unfold pickK
          rw [if_pos hq']
          exact ⟨rfl, hb6⟩
      | false =>
        (repeat (first | refine pl_pure hT rfl rfl rfl ?_ | refine pl_nil ?_ | refine rn_seq ?_ | refine rn_plain ?_ | refine rn_block ?_ | refine rn_inBlock ?_ | refine rn_skip ?_ | refine rn_true rfl ?_ | refine rn_false rfl ?_ | refine rn_exit rfl ?_ | refine pl_not rfl rfl ?_))
        refine pl_num (((k + 1 : Nat) : Int)) rfl rfl rfl rfl rfl (by simp only [ariP]; omega) ?_
        (repeat (first | refine pl_pure hT rfl rfl rfl ?_ | refine pl_nil ?_ | refine rn_seq ?_ | refine rn_plain ?_ | refine rn_block ?_ | refine rn_inBlock ?_ | refine rn_skip ?_ | refine rn_true rfl ?_ | refine rn_false rfl ?_ | refine rn_exit rfl ?_ | refine pl_not rfl rfl ?_))
        refine rn_sub ?_ (ih _ _ _ ?_ ⟨k + 1, by omega, by omega, rfl, rfl, ?_, hr5, hcx5, hk05⟩)
        · exact ⟨rfl, rfl, rfl, rfl, trivial⟩
        · omega
        · intro j hj
          subst hj
          have hq' : isT ts j (of k) = false := hq.symm
          rw [hpick j rfl, estep, pickK, if_neg (by rw [hq']; decide)]
    · refine pl_no rfl rfl rfl rfl rfl rfl (by first | (simp only [cmpP]; omega) | (simp [cmpP]; done) | (simp [cmpP]; omega)) ?_
      (repeat (first | refine pl_pure hT rfl rfl rfl ?_ | refine pl_nil ?_ | refine rn_seq ?_ | refine rn_plain ?_ | refine rn_block ?_ | refine rn_inBlock ?_ | refine rn_skip ?_ | refine rn_true rfl ?_ | refine rn_false rfl ?_ | refine rn_exit rfl ?_ | refine pl_not rfl rfl ?_))
      refine pl_op rfl rfl (opTo_call (fst := []) (cap := []) rfl rfl rfl rfl (by decide +kernel) ((rWrong_ret hcx3 hr3 5 (by decide)).mono ?_))
      rintro r w4 ⟨hr4, hk4⟩
      (repeat (first | refine pl_pure hT rfl rfl rfl ?_ | refine pl_nil ?_ | refine rn_seq ?_ | refine rn_plain ?_ | refine rn_block ?_ | refine rn_inBlock ?_ | refine rn_skip ?_ | refine rn_true rfl ?_ | refine rn_false rfl ?_ | refine rn_exit rfl ?_ | refine pl_not rfl rfl ?_))
      refine rn_ret Tryz.func41 (.inl ⟨_, rfl, rfl⟩) ⟨?_, hk3.tr hk4⟩
      cases x1 with
      | error e => exact ⟨rfl, hr4⟩
      | ok j =>
        show IdxR _ _ _ _ _ _ (match pickK ts of j 1 most with | some k => _ | none => _)
        have e0 : most + 1 - k = 0 := by omega
        rw [hpick j rfl, e0]
        exact ⟨rfl, hr4⟩
  · rw [if_neg hd] at hx0
    have h0 : Rs w b lv vv fin x0 := by rw [hx0]; exact h
    refine pl_no rfl rfl rfl rfl rfl rfl (by first | (simp only [cmpP]; omega) | (simp [cmpP]; done) | (simp [cmpP]; omega)) ?_
    (repeat (first | refine pl_pure hT rfl rfl rfl ?_ | refine pl_nil ?_ | refine rn_seq ?_ | refine rn_plain ?_ | refine rn_block ?_ | refine rn_inBlock ?_ | refine rn_skip ?_ | refine rn_true rfl ?_ | refine rn_false rfl ?_ | refine rn_exit rfl ?_ | refine pl_not rfl rfl ?_))
    refine pl_op rfl rfl (opTo_call (fst := []) (cap := []) rfl rfl rfl rfl (by decide +kernel) ((rMust_ret hx h0 [40]).mono ?_))
    rintro r w2 ⟨hr2, hk2⟩
    have hcx2 := hx.keepR h0 hk2
    have hk02 := hk2
    obtain ⟨x1, hx1⟩ : ∃ x1, x1 = bnd x0 (mustP ts fin [40]) := ⟨_, rfl⟩
    rw [main x1 hx1]
    rw [← hx1] at hr2
    (repeat (first | refine pl_pure hT rfl rfl rfl ?_ | refine pl_nil ?_ | refine rn_seq ?_ | refine rn_plain ?_ | refine rn_block ?_ | refine rn_inBlock ?_ | refine rn_skip ?_ | refine rn_true rfl ?_ | refine rn_false rfl ?_ | refine rn_exit rfl ?_ | refine pl_not rfl rfl ?_))
    refine rn_ind (fun m σ w' => ∃ k : Nat, 1 ≤ k ∧ k ≤ most + 1 ∧ m = most + 1 - k ∧ σ = [(0, .pointer (some ⟨b, 0, none⟩)), (2, .int .i64 (most : Nat)), (3, .func (.func g) #[] #[]), (9, .int .i64 (k : Nat))] ∧ (∀ j, x1 = .ok j → pickK ts of j 1 most = pickK ts of j k (most + 1 - k)) ∧
      Rs w' b lv vv fin x1 ∧ Cx w' lv vv ts vs ∧ Keep [b] w w') most _ ?_ ⟨1, by omega, by omega, by omega, rfl, fun j _ => by rw [Nat.add_sub_cancel], hr2, hcx2, hk02⟩ ?_
    · exact ⟨rfl, rfl, rfl, rfl, trivial⟩
    rintro m σ w3 ih ⟨k, hk1, hk2', rfl, rfl, hpick, hr3, hcx3, hk3⟩
    (repeat (first | refine pl_pure hT rfl rfl rfl ?_ | refine pl_nil ?_ | refine rn_seq ?_ | refine rn_plain ?_ | refine rn_block ?_ | refine rn_inBlock ?_ | refine rn_skip ?_ | refine rn_true rfl ?_ | refine rn_false rfl ?_ | refine rn_exit rfl ?_ | refine pl_not rfl rfl ?_))
    by_cases hle : k ≤ most
    · refine pl_yes rfl rfl rfl rfl rfl (by first | (simp only [cmpP]; omega) | (simp [cmpP]; done) | (simp [cmpP]; omega)) ?_
      (repeat (first | refine pl_pure hT rfl rfl rfl ?_ | refine pl_nil ?_ | refine rn_seq ?_ | refine rn_plain ?_ | refine rn_block ?_ | refine rn_inBlock ?_ | refine rn_skip ?_ | refine rn_true rfl ?_ | refine rn_false rfl ?_ | refine rn_exit rfl ?_ | refine pl_not rfl rfl ?_))
      refine pl_op rfl rfl (opTo_call (fst := []) (cap := []) rfl rfl rfl rfl hg ((hof k w3 hk1 hle).mono ?_))
      rintro r w4 ⟨rfl, hk4⟩
      have hr4 := hr3.keep hk4 (by simp)
      have hcx4 := hcx3.keep0 hk4
      refine pl_op rfl rfl (opTo_call (fst := []) (cap := []) rfl rfl rfl rfl (by decide +kernel) ((rIs_ret hcx4 hr4 (of k)).mono ?_))
      rintro r w5 ⟨rfl, hk5⟩
      have hr5 := hr4.keep hk5 (by simp)
      have hcx5 := hcx4.keep0 hk5
      have hk05 := (hk3.tr0 hk4).tr0 hk5
      obtain ⟨q, hq⟩ : ∃ q, q = isX ts x1 (of k) := ⟨_, rfl⟩
      rw [← hq]
      have estep : most + 1 - k = (most + 1 - (k + 1)) + 1 := by omega
      cases q with
      | true =>
        cases x1 with
        | error e => cases hq
        | ok j =>
          have hq' : isT ts j (of k) = true := hq.symm
          have hlt := isT_lt hq'
          have hb5 : Blk w5 b (rgC lv vv fin j (0, 0)) 53 := hr5
          (repeat (first | refine pl_pure hT rfl rfl rfl ?_ | refine pl_nil ?_ | refine rn_seq ?_ | refine rn_plain ?_ | refine rn_block ?_ | refine rn_inBlock ?_ | refine rn_skip ?_ | refine rn_true rfl ?_ | refine rn_false rfl ?_ | refine rn_exit rfl ?_ | refine pl_not rfl rfl ?_))
          refine pl_val _ rfl rfl (val_load1 hT rfl rfl rfl (Blk.cell hb5 (by rfl))) ?_
          refine pl_num (((j + 1 : Nat) : Int)) rfl rfl rfl rfl rfl (by simp only [ariP]; omega) ?_
          (repeat (first | refine pl_pure hT rfl rfl rfl ?_ | refine pl_nil ?_ | refine rn_seq ?_ | refine rn_plain ?_ | refine rn_block ?_ | refine rn_inBlock ?_ | refine rn_skip ?_ | refine rn_true rfl ?_ | refine rn_false rfl ?_ | refine rn_exit rfl ?_ | refine pl_not rfl rfl ?_))
          refine pl_op rfl rfl (opTo_storeN [.int .i64 ((j + 1 : Nat) : Int)] rfl rfl rfl rfl size_int hb5 (by simp [rgC]) (by simp; rfl) ?_)
          intro w6 hs6 hk6 hb6
          rw [rgC_next] at hb6
          (repeat (first | refine pl_pure hT rfl rfl rfl ?_ | refine pl_nil ?_ | refine rn_seq ?_ | refine rn_plain ?_ | refine rn_block ?_ | refine rn_inBlock ?_ | refine rn_skip ?_ | refine rn_true rfl ?_ | refine rn_false rfl ?_ | refine rn_exit rfl ?_ | refine pl_not rfl rfl ?_))
          refine rn_ret Tryz.func41 (.inl ⟨_, rfl, rfl⟩) ⟨?_, hk05.tr hk6⟩
          show IdxR _ _ _ _ _ _ (match pickK ts of j 1 most with | some k => _ | none => _)
          rw [hpick j rfl, estep]
          unfold pickK
          rw [if_pos hq']
          exact ⟨rfl, hb6⟩
      | false =>
        (repeat (first | refine pl_pure hT rfl rfl rfl ?_ | refine pl_nil ?_ | refine rn_seq ?_ | refine rn_plain ?_ | refine rn_block ?_ | refine rn_inBlock ?_ | refine rn_skip ?_ | refine rn_true rfl ?_ | refine rn_false rfl ?_ | refine rn_exit rfl ?_ | refine pl_not rfl rfl ?_))
        refine pl_num (((k + 1 : Nat) : Int)) rfl rfl rfl rfl rfl (by simp only [ariP]; omega) ?_
        (repeat (first | refine pl_pure hT rfl rfl rfl ?_ | refine pl_nil ?_ | refine rn_seq ?_ | refine rn_plain ?_ | refine rn_block ?_ | refine rn_inBlock ?_ | refine rn_skip ?_ | refine rn_true rfl ?_ | refine rn_false rfl ?_ | refine rn_exit rfl ?_ | refine pl_not rfl rfl ?_))
        refine rn_sub ?_ (ih _ _ _ ?_ ⟨k + 1, by omega, by omega, rfl, rfl, ?_, hr5, hcx5, hk05⟩)
        · exact ⟨rfl, rfl, rfl, rfl, trivial⟩
        · omega
        · intro j hj
          subst hj
          have hq' : isT ts j (of k) = false := hq.symm
          rw [hpick j rfl, estep, pickK, if_neg (by rw [hq']; decide)]
    · refine pl_no rfl rfl rfl rfl rfl rfl (by first | (simp only [cmpP]; omega) | (simp [cmpP]; done) | (simp [cmpP]; omega)) ?_
      (repeat (first | refine pl_pure hT rfl rfl rfl ?_ | refine pl_nil ?_ | refine rn_seq ?_ | refine rn_plain ?_ | refine rn_block ?_ | refine rn_inBlock ?_ | refine rn_skip ?_ | refine rn_true rfl ?_ | refine rn_false rfl ?_ | refine rn_exit rfl ?_ | refine pl_not rfl rfl ?_))
      refine pl_op rfl rfl (opTo_call (fst := []) (cap := []) rfl rfl rfl rfl (by decide +kernel) ((rWrong_ret hcx3 hr3 5 (by decide)).mono ?_))
      rintro r w4 ⟨hr4, hk4⟩
      (repeat (first | refine pl_pure hT rfl rfl rfl ?_ | refine pl_nil ?_ | refine rn_seq ?_ | refine rn_plain ?_ | refine rn_block ?_ | refine rn_inBlock ?_ | refine rn_skip ?_ | refine rn_true rfl ?_ | refine rn_false rfl ?_ | refine rn_exit rfl ?_ | refine pl_not rfl rfl ?_))
      refine rn_ret Tryz.func41 (.inl ⟨_, rfl, rfl⟩) ⟨?_, hk3.tr hk4⟩
      cases x1 with
      | error e => exact ⟨rfl, hr4⟩
      | ok j =>
        show IdxR _ _ _ _ _ _ (match pickK ts of j 1 most with | some k => _ | none => _)
        have e0 : most + 1 - k = 0 := by omega
        rw [hpick j rfl, e0]
        exact ⟨rfl, hr4⟩

theorem rVariable_ret {w : World} {b fin : Nat} {lv vv : Value} {ts : List Tok} {vs : List VarT} {x : Except Flt Nat} (hx : Cx w lv vv ts vs) (h : Rs w b lv vv fin x) :
    Ret Tryz.prog 43 [.pointer (some ⟨b, 0, none⟩)] w fun r w' => IdxR w' b lv vv fin r (bnd x (varP ts fin vs)) ∧ Keep [b] w w' := by
  refine ret_of 44 Tryz.func43 rfl rfl (by simp) ?_
  have hvlen := hx.vlen
  obtain ⟨i0, fl0, hb0⟩ := h.blk
  have hi0 : ∀ i, x = .ok i → i = i0 := by
    intro i hi
    subst hi
    have hb : Blk w b (rgC lv vv fin i (0, 0)) 53 := h
    unfold Blk at hb hb0
    rw [hb] at hb0
    injection hb0 with hb0
    injection hb0 with hb0
    have h2 := congrArg (fun a : Array Value => a[2]?) hb0
    simp [rgC] at h2
    omega
  (repeat (first | refine pl_pure hT rfl rfl rfl ?_ | refine pl_nil ?_ | refine rn_seq ?_ | refine rn_plain ?_ | refine rn_block ?_ | refine rn_inBlock ?_ | refine rn_skip ?_ | refine rn_true rfl ?_ | refine rn_false rfl ?_ | refine rn_exit rfl ?_ | refine pl_not rfl rfl ?_))
  refine pl_val _ rfl rfl (val_load1 hT rfl rfl rfl (Blk.cell hb0 (by rfl))) ?_
  (repeat (first | refine pl_pure hT rfl rfl rfl ?_ | refine pl_nil ?_ | refine rn_seq ?_ | refine rn_plain ?_ | refine rn_block ?_ | refine rn_inBlock ?_ | refine rn_skip ?_ | refine rn_true rfl ?_ | refine rn_false rfl ?_ | refine rn_exit rfl ?_ | refine pl_not rfl rfl ?_))
  refine pl_op rfl rfl (opTo_call (fst := []) (cap := []) rfl rfl rfl rfl (by decide +kernel) ((rName_ret hx h).mono ?_))
  rintro r w1 ⟨hr1, hk1⟩
  have hcx1 := hx.keepR h hk1
  have hfold : bnd x (varP ts fin vs) = bnd (bnd x (nameP ts fin)) fun (s, j) => match findV vs s with
      | some k => .ok (k, j)
      | none => .error (wrongAt ts fin 10 i0) := by
    cases x with
    | error e => rfl
    | ok i =>
      have := hi0 i rfl
      subst this
      rfl
  rw [hfold]
  cases hX : bnd x (nameP ts fin) with
  | error e =>
    rw [hX] at hr1
    obtain ⟨rfl, hr1⟩ := hr1
    obtain ⟨av, cv, rfl⟩ := hcx1.formV
    obtain ⟨he, i1, hb1⟩ := hr1
    (repeat (first | refine pl_pure hT rfl rfl rfl ?_ | refine pl_nil ?_ | refine rn_seq ?_ | refine rn_plain ?_ | refine rn_block ?_ | refine rn_inBlock ?_ | refine rn_skip ?_ | refine rn_true rfl ?_ | refine rn_false rfl ?_ | refine rn_exit rfl ?_ | refine pl_not rfl rfl ?_))
    refine rn_ind (fun m σ w' => σ = [(0, .pointer (some ⟨b, 0, none⟩)), (5, .int .i64 0)] ∧ m = 0 ∧ w' = w1) 0 _ ?_ ⟨rfl, rfl, rfl⟩ ?_
    · exact ⟨rfl, rfl, trivial⟩
    rintro m σ w2 ih ⟨rfl, rfl, rfl⟩
    (repeat (first | refine pl_pure hT rfl rfl rfl ?_ | refine pl_nil ?_ | refine rn_seq ?_ | refine rn_plain ?_ | refine rn_block ?_ | refine rn_inBlock ?_ | refine rn_skip ?_ | refine rn_true rfl ?_ | refine rn_false rfl ?_ | refine rn_exit rfl ?_ | refine pl_not rfl rfl ?_))
    refine pl_val _ rfl rfl (val_load1 hT rfl rfl rfl (Blk.cell hb1 (by rfl))) ?_
    (repeat (first | refine pl_pure hT rfl rfl rfl ?_ | refine pl_nil ?_ | refine rn_seq ?_ | refine rn_plain ?_ | refine rn_block ?_ | refine rn_inBlock ?_ | refine rn_skip ?_ | refine rn_true rfl ?_ | refine rn_false rfl ?_ | refine rn_exit rfl ?_ | refine pl_not rfl rfl ?_))
    by_cases h0 : 0 < vs.length
    · refine pl_yes rfl rfl rfl rfl rfl (by first | (simp only [cmpP]; omega) | (simp [cmpP]; done) | (simp [cmpP]; omega)) ?_
      (repeat (first | refine pl_pure hT rfl rfl rfl ?_ | refine pl_nil ?_ | refine rn_seq ?_ | refine rn_plain ?_ | refine rn_block ?_ | refine rn_inBlock ?_ | refine rn_skip ?_ | refine rn_true rfl ?_ | refine rn_false rfl ?_ | refine rn_exit rfl ?_ | refine pl_not rfl rfl ?_))
      refine pl_op rfl rfl (opTo_call (fst := []) (cap := []) rfl rfl rfl rfl (by decide +kernel) ((rOk_ret (x := .error e) ⟨he, i1, hb1⟩).mono ?_))
      rintro r w3 ⟨rfl, rfl⟩
      unfold okX
      (repeat (first | refine pl_pure hT rfl rfl rfl ?_ | refine pl_nil ?_ | refine rn_seq ?_ | refine rn_plain ?_ | refine rn_block ?_ | refine rn_inBlock ?_ | refine rn_skip ?_ | refine rn_true rfl ?_ | refine rn_false rfl ?_ | refine rn_exit rfl ?_ | refine pl_not rfl rfl ?_))
      refine pl_op rfl rfl (opTo_call (fst := []) (cap := []) rfl rfl rfl rfl (by decide +kernel) ((rOk_ret (x := .error e) ⟨he, i1, hb1⟩).mono ?_))
      rintro r w4 ⟨rfl, rfl⟩
      unfold okX
      (repeat (first | refine pl_pure hT rfl rfl rfl ?_ | refine pl_nil ?_ | refine rn_seq ?_ | refine rn_plain ?_ | refine rn_block ?_ | refine rn_inBlock ?_ | refine rn_skip ?_ | refine rn_true rfl ?_ | refine rn_false rfl ?_ | refine rn_exit rfl ?_ | refine pl_not rfl rfl ?_))
      exact rn_ret Tryz.func43 (.inl ⟨_, rfl, rfl⟩) ⟨⟨rfl, he, i1, hb1⟩, hk1⟩
    · refine pl_no rfl rfl rfl rfl rfl rfl (by first | (simp only [cmpP]; omega) | (simp [cmpP]; done) | (simp [cmpP]; omega)) ?_
      (repeat (first | refine pl_pure hT rfl rfl rfl ?_ | refine pl_nil ?_ | refine rn_seq ?_ | refine rn_plain ?_ | refine rn_block ?_ | refine rn_inBlock ?_ | refine rn_skip ?_ | refine rn_true rfl ?_ | refine rn_false rfl ?_ | refine rn_exit rfl ?_ | refine pl_not rfl rfl ?_))
      refine pl_op rfl rfl (opTo_call (fst := []) (cap := []) rfl rfl rfl rfl (by decide +kernel) ((rOk_ret (x := .error e) ⟨he, i1, hb1⟩).mono ?_))
      rintro r w4 ⟨rfl, rfl⟩
      unfold okX
      (repeat (first | refine pl_pure hT rfl rfl rfl ?_ | refine pl_nil ?_ | refine rn_seq ?_ | refine rn_plain ?_ | refine rn_block ?_ | refine rn_inBlock ?_ | refine rn_skip ?_ | refine rn_true rfl ?_ | refine rn_false rfl ?_ | refine rn_exit rfl ?_ | refine pl_not rfl rfl ?_))
      exact rn_ret Tryz.func43 (.inl ⟨_, rfl, rfl⟩) ⟨⟨rfl, he, i1, hb1⟩, hk1⟩
  | ok sj =>
    obtain ⟨s, j⟩ := sj
    rw [hX] at hr1
    obtain ⟨rfl, hr1⟩ := hr1
    have hb1 : Blk w1 b (rgC lv vv fin j (0, 0)) 53 := hr1
    obtain ⟨av, cv, rfl⟩ := hcx1.formV
    (repeat (first | refine pl_pure hT rfl rfl rfl ?_ | refine pl_nil ?_ | refine rn_seq ?_ | refine rn_plain ?_ | refine rn_block ?_ | refine rn_inBlock ?_ | refine rn_skip ?_ | refine rn_true rfl ?_ | refine rn_false rfl ?_ | refine rn_exit rfl ?_ | refine pl_not rfl rfl ?_))
    refine rn_ind (fun m σ w' => ∃ k : Nat, k ≤ vs.length ∧ m = vs.length - k ∧ σ = [(0, .pointer (some ⟨b, 0, none⟩)), (3, .int .i64 (i0 : Nat)), (4, .string (str s)), (5, .int .i64 (k : Nat))] ∧ findV vs s = (findV (vs.drop k) s).map (· + k) ∧ w' = w1) vs.length _ ?_
      ⟨0, by omega, by omega, rfl, by simp, rfl⟩ ?_
    · exact ⟨rfl, rfl, rfl, rfl, trivial⟩
    rintro m σ w2 ih ⟨k, hk, rfl, rfl, hf, rfl⟩
    (repeat (first | refine pl_pure hT rfl rfl rfl ?_ | refine pl_nil ?_ | refine rn_seq ?_ | refine rn_plain ?_ | refine rn_block ?_ | refine rn_inBlock ?_ | refine rn_skip ?_ | refine rn_true rfl ?_ | refine rn_false rfl ?_ | refine rn_exit rfl ?_ | refine pl_not rfl rfl ?_))
    refine pl_val _ rfl rfl (val_load1 hT rfl rfl rfl (Blk.cell hb1 (by rfl))) ?_
    (repeat (first | refine pl_pure hT rfl rfl rfl ?_ | refine pl_nil ?_ | refine rn_seq ?_ | refine rn_plain ?_ | refine rn_block ?_ | refine rn_inBlock ?_ | refine rn_skip ?_ | refine rn_true rfl ?_ | refine rn_false rfl ?_ | refine rn_exit rfl ?_ | refine pl_not rfl rfl ?_))
    by_cases hlt : k < vs.length
    · refine pl_yes rfl rfl rfl rfl rfl (by first | (simp only [cmpP]; omega) | (simp [cmpP]; done) | (simp [cmpP]; omega)) ?_
      (repeat (first | refine pl_pure hT rfl rfl rfl ?_ | refine pl_nil ?_ | refine rn_seq ?_ | refine rn_plain ?_ | refine rn_block ?_ | refine rn_inBlock ?_ | refine rn_skip ?_ | refine rn_true rfl ?_ | refine rn_false rfl ?_ | refine rn_exit rfl ?_ | refine pl_not rfl rfl ?_))
      refine pl_op rfl rfl (opTo_call (fst := []) (cap := []) rfl rfl rfl rfl (by decide +kernel) ((rOk_ret (x := .ok j) hb1).mono ?_))
      rintro r w3 ⟨rfl, rfl⟩
      unfold okX
      (repeat (first | refine pl_pure hT rfl rfl rfl ?_ | refine pl_nil ?_ | refine rn_seq ?_ | refine rn_plain ?_ | refine rn_block ?_ | refine rn_inBlock ?_ | refine rn_skip ?_ | refine rn_true rfl ?_ | refine rn_false rfl ?_ | refine rn_exit rfl ?_ | refine pl_not rfl rfl ?_))
      refine pl_val _ rfl rfl (val_load1 hT rfl rfl rfl (Blk.cell hb1 (by rfl))) ?_
      (repeat (first | refine pl_pure hT rfl rfl rfl ?_ | refine pl_nil ?_ | refine rn_seq ?_ | refine rn_plain ?_ | refine rn_block ?_ | refine rn_inBlock ?_ | refine rn_skip ?_ | refine rn_true rfl ?_ | refine rn_false rfl ?_ | refine rn_exit rfl ?_ | refine pl_not rfl rfl ?_))
      obtain ⟨g, cap, e1, hr⟩ := hcx1.atV (List.getElem?_eq_getElem hlt)
      injection e1 with e1 _ e1'
      subst e1 e1'
      refine pl_val _ rfl rfl (val_index k hT rfl rfl rfl rfl rfl hlt w3) ?_
      (repeat (first | refine pl_pure hT rfl rfl rfl ?_ | refine pl_nil ?_ | refine rn_seq ?_ | refine rn_plain ?_ | refine rn_block ?_ | refine rn_inBlock ?_ | refine rn_skip ?_ | refine rn_true rfl ?_ | refine rn_false rfl ?_ | refine rn_exit rfl ?_ | refine pl_not rfl rfl ?_))
      refine pl_val _ rfl rfl (val_load1 hT rfl rfl rfl (hr 0 _ rfl)) ?_
      (repeat (first | refine pl_pure hT rfl rfl rfl ?_ | refine pl_nil ?_ | refine rn_seq ?_ | refine rn_plain ?_ | refine rn_block ?_ | refine rn_inBlock ?_ | refine rn_skip ?_ | refine rn_true rfl ?_ | refine rn_false rfl ?_ | refine rn_exit rfl ?_ | refine pl_not rfl rfl ?_))
      rw [List.drop_eq_getElem_cons hlt] at hf
      rw [findV_cons] at hf
      have hbeq : (vs[k].1.toList == (str s).toList) = (vs[k].1.data.toList == s) := by
        rw [str_toList, ← str_toList vs[k].1.data.toList, str_data]
      refine pl_val _ rfl rfl (val_eqStr vs[k].1 (str s) (vs[k].1.data.toList == s) rfl rfl rfl hbeq w3) ?_
      obtain ⟨q, hq⟩ : ∃ q, q = (vs[k].1.data.toList == s) := ⟨_, rfl⟩
      rw [← hq] at hf ⊢
      cases q with
      | true =>
        rw [if_pos rfl] at hf
        (repeat (first | refine pl_pure hT rfl rfl rfl ?_ | refine pl_nil ?_ | refine rn_seq ?_ | refine rn_plain ?_ | refine rn_block ?_ | refine rn_inBlock ?_ | refine rn_skip ?_ | refine rn_true rfl ?_ | refine rn_false rfl ?_ | refine rn_exit rfl ?_ | refine pl_not rfl rfl ?_))
        refine rn_ret Tryz.func43 (.inl ⟨_, rfl, rfl⟩) ⟨?_, hk1⟩
        show IdxR _ _ _ _ _ _ (match findV vs s with | some k => _ | none => _)
        rw [hf]
        simp only [Option.map_some, Nat.zero_add]
        exact ⟨rfl, hr1⟩
      | false =>
        rw [if_neg (by decide)] at hf
        (repeat (first | refine pl_pure hT rfl rfl rfl ?_ | refine pl_nil ?_ | refine rn_seq ?_ | refine rn_plain ?_ | refine rn_block ?_ | refine rn_inBlock ?_ | refine rn_skip ?_ | refine rn_true rfl ?_ | refine rn_false rfl ?_ | refine rn_exit rfl ?_ | refine pl_not rfl rfl ?_))
        refine pl_num (((k + 1 : Nat) : Int)) rfl rfl rfl rfl rfl (by simp only [ariP]; omega) ?_
        (repeat (first | refine pl_pure hT rfl rfl rfl ?_ | refine pl_nil ?_ | refine rn_seq ?_ | refine rn_plain ?_ | refine rn_block ?_ | refine rn_inBlock ?_ | refine rn_skip ?_ | refine rn_true rfl ?_ | refine rn_false rfl ?_ | refine rn_exit rfl ?_ | refine pl_not rfl rfl ?_))
        refine rn_sub ?_ (ih _ _ _ ?_ ⟨k + 1, hlt, rfl, rfl, ?_, rfl⟩)
        · exact ⟨rfl, rfl, rfl, rfl, trivial⟩
        · omega
        · rw [hf, Option.map_map]
          congr 1
          funext z
          simp only [Function.comp]
          omega
    · refine pl_no rfl rfl rfl rfl rfl rfl (by first | (simp only [cmpP]; omega) | (simp [cmpP]; done) | (simp [cmpP]; omega)) ?_
      (repeat (first | refine pl_pure hT rfl rfl rfl ?_ | refine pl_nil ?_ | refine rn_seq ?_ | refine rn_plain ?_ | refine rn_block ?_ | refine rn_inBlock ?_ | refine rn_skip ?_ | refine rn_true rfl ?_ | refine rn_false rfl ?_ | refine rn_exit rfl ?_ | refine pl_not rfl rfl ?_))
      have hf2 : findV vs s = none := by
        rw [hf, List.drop_of_length_le (by omega)]
        rfl
      refine pl_op rfl rfl (opTo_call (fst := []) (cap := []) rfl rfl rfl rfl (by decide +kernel) ((rOk_ret (x := .ok j) hb1).mono ?_))
      rintro r w3 ⟨rfl, rfl⟩
      unfold okX
      (repeat (first | refine pl_pure hT rfl rfl rfl ?_ | refine pl_nil ?_ | refine rn_seq ?_ | refine rn_plain ?_ | refine rn_block ?_ | refine rn_inBlock ?_ | refine rn_skip ?_ | refine rn_true rfl ?_ | refine rn_false rfl ?_ | refine rn_exit rfl ?_ | refine pl_not rfl rfl ?_))
      refine pl_op rfl rfl (opTo_storeN [.int .i64 ((i0 : Nat) : Int)] rfl rfl rfl rfl size_int hb1 (by simp [rgC]) (by simp; rfl) ?_)
      intro w4 hs4 hk4 hb4
      have hsp : splice (rgC lv (.slice av vs.length cv) fin j (0, 0)) 2 [.int .i64 ((i0 : Nat) : Int)] = rgC lv (.slice av vs.length cv) fin i0 (0, 0) := rfl
      rw [hsp] at hb4
      have hcx4 := hcx1.keep hb1 hk4
      (repeat (first | refine pl_pure hT rfl rfl rfl ?_ | refine pl_nil ?_ | refine rn_seq ?_ | refine rn_plain ?_ | refine rn_block ?_ | refine rn_inBlock ?_ | refine rn_skip ?_ | refine rn_true rfl ?_ | refine rn_false rfl ?_ | refine rn_exit rfl ?_ | refine pl_not rfl rfl ?_))
      refine pl_op rfl rfl (opTo_call (fst := []) (cap := []) rfl rfl rfl rfl (by decide +kernel) ((rWrong_ret hcx4 (x := .ok i0) hb4 10 (by decide)).mono ?_))
      rintro r w5 ⟨hr5, hk5⟩
      (repeat (first | refine pl_pure hT rfl rfl rfl ?_ | refine pl_nil ?_ | refine rn_seq ?_ | refine rn_plain ?_ | refine rn_block ?_ | refine rn_inBlock ?_ | refine rn_skip ?_ | refine rn_true rfl ?_ | refine rn_false rfl ?_ | refine rn_exit rfl ?_ | refine pl_not rfl rfl ?_))
      refine rn_ret Tryz.func43 (.inl ⟨_, rfl, rfl⟩) ⟨?_, (hk1.tr hk4).tr hk5⟩
      show IdxR _ _ _ _ _ _ (match findV vs s with | some k => _ | none => _)
      rw [hf2]
      exact ⟨rfl, hr5⟩
end E
end Go.Proofs.YthbkcadiejfgaacGreatDoor

/- Rows of expressions and of statements that are being made. -/
namespace Go.Proofs.YthbkcadiejfgaacGreatDoor
set_option maxRecDepth 20000
set_option maxHeartbeats 4000000
namespace E
open Go.Proofs

end E
end Go.Proofs.YthbkcadiejfgaacGreatDoor

/- Contract of the document's reader: an expression. -/
namespace Go.Proofs.YthbkcadiejfgaacGreatDoor
set_option maxRecDepth 20000
set_option maxHeartbeats 4000000
namespace E
open Go.Proofs

/-- What expr tells. -/
def ExpR (w0 w : World) (b : Nat) (lv vv : Value) (fin : Nat) (r : Value) : Except Flt (ET × Nat) → Prop
  | .ok (t, j) => (∃ (cs : List Value) (F : Nat → Prop), r = .agg cs.toArray ∧ ExprV F w cs t ∧ ∀ c, F c → w0.heap.size ≤ c ∧ c < w.heap.size) ∧ Rs w b lv vv fin (.ok j)
  | .error e => (∃ cs : List Value, r = .agg cs.toArray ∧ cs.length = 4 ∧ ∀ u ∈ cs, u.oneCell' = true) ∧ Rs w b lv vv fin (.error e)

theorem wordOf_of (k : Nat) (w : World) (h1 : 1 ≤ k) (h8 : k ≤ 8) : Ret Tryz.prog 10 [.int .i64 (k : Nat)] w fun r w' => r = .string (str (wordT k)) ∧ Keep [] w w' := by
  have := wordR_ret (k : Nat) w
  unfold wordI at this
  rw [if_pos (by omega), Int.toNat_natCast] at this
  exact this

theorem rExpr_ret {b fin : Nat} {lv vv : Value} {ts : List Tok} {vs : List VarT} : ∀ (f deep i : Nat) {w : World}, deep + f = 13 → Cx w lv vv ts vs → Rs w b lv vv fin (.ok i) →
    Ret Tryz.prog 44 [.pointer (some ⟨b, 0, none⟩), .int .i64 (deep : Nat)] w fun r w' => ExpR w w' b lv vv fin r (exprP ts fin vs f i) ∧ Keep [b] w w' := by
  intro f
  induction f using Nat.strongRecOn with
  | _ f ih =>
  intro deep i w hdf hx h
  have hbw := h.lt
  refine ret_of 51 Tryz.func44 rfl rfl (by simp) ?_
  (repeat (first | refine pl_pure hT rfl rfl rfl ?_ | refine pl_nil ?_ | refine rn_seq ?_ | refine rn_plain ?_ | refine rn_block ?_ | refine rn_inBlock ?_ | refine rn_skip ?_ | refine rn_true rfl ?_ | refine rn_false rfl ?_ | refine rn_exit rfl ?_ | refine pl_not rfl rfl ?_))
  refine pl_op rfl rfl (opTo_allocN _ rfl zero_ex ?_)
  intro w1 b4 hb40 hs1 hk1 hz1
  have hr1 := h.keep hk1 (by simp)
  have hcx1 := hx.keep0 hk1
  (repeat (first | refine pl_pure hT rfl rfl rfl ?_ | refine pl_nil ?_ | refine rn_seq ?_ | refine rn_plain ?_ | refine rn_block ?_ | refine rn_inBlock ?_ | refine rn_skip ?_ | refine rn_true rfl ?_ | refine rn_false rfl ?_ | refine rn_exit rfl ?_ | refine pl_not rfl rfl ?_))
  refine pl_op rfl rfl (opTo_call (fst := []) (cap := []) rfl rfl rfl rfl (by decide +kernel) ((rBegin_ret (g := 10) (of := wordT) (most := 8) hcx1 hr1 deep (by omega) (by decide) (by decide +kernel) wordOf_of).mono ?_))
  rintro r w2 ⟨hidx, hk2⟩
  rw [exprP_eq ts fin vs hdf i]
  obtain ⟨X1, hX1⟩ : ∃ X1, X1 = bnd (if 12 < deep then .error (wrongAt ts fin 4 i) else .ok i) (beginP ts fin wordT 8) := ⟨_, rfl⟩
  rw [← hX1] at hidx ⊢
  have hcx2 := hcx1.keepR hr1 hk2
  have hz2 := hk2.blk hz1 (by simp; omega)
  have hk02 : Keep [b] w w2 := (Keep.of0 hk1).tr hk2
  have hw2 : w1.heap.size ≤ w2.heap.size := hk2.size
  -- its kind, or 0
  obtain ⟨kk, rfl, hkk, hr2, hkr⟩ : ∃ kk : Nat, r = .int .i64 (kk : Nat) ∧ (kk = 0 → ∃ e, X1 = .error e) ∧ Rs w2 b lv vv fin (sndX X1) ∧ (kk ≠ 0 → 1 ≤ kk ∧ kk ≤ 8 ∧ 1 ≤ f ∧ ∃ i1, X1 = .ok (kk, i1)) := by
    cases hc : X1 with
    | error e =>
      rw [hc] at hidx
      exact ⟨0, hidx.1, fun _ => ⟨e, rfl⟩, hidx.2, fun h => absurd rfl h⟩
    | ok p =>
      obtain ⟨k, i1⟩ := p
      rw [hc] at hidx
      have hd : ¬ 12 < deep := by
        intro hd
        rw [if_pos hd] at hX1
        rw [hc] at hX1
        cases hX1
      rw [if_neg hd, hc] at hX1
      have hb := beginP_ok hX1.symm
      refine ⟨k, hidx.1, fun h0 => by have := hb.2.2.1; dsimp only at this; omega, hidx.2, fun _ => ⟨hb.2.2.1, hb.2.2.2, by omega, i1, rfl⟩⟩
  refine pl_val _ rfl rfl (val_build _ rfl rfl (built_expr (kk : Nat)) w2) ?_
  refine pl_op rfl rfl (opTo_allocN _ rfl zero_ex ?_)
  intro w3 b5 hb50 hs3 hk3 hz3
  refine pl_op rfl rfl (opTo_storeN (xC (kk : Nat) 0 0 (.slice none 0 0)) rfl rfl rfl rfl size_expr hz3 (by simp [xC]) (xC_one rfl) ?_)
  intro w4 hs4 hk4 hz4
  rw [splice_whole (by rfl)] at hz4
  have hk24 : Keep [] w2 w4 := hk3.trB hk4 (by omega)
  have hr4 := hr2.keep hk24 (by simp)
  have hcx4 := hcx2.keep0 hk24
  have hy4 := hk24.blk hz2 (by simp)
  have hk04 : Keep [b] w w4 := hk02.tr0 hk24
  obtain ⟨B, hB⟩ : ∃ B, B = w4.heap.size := ⟨_, rfl⟩
  have hB4 : b4 < B := by have := hy4.lt; omega
  have hB5 : b5 < B := by have := hz4.lt; omega
  have hbB : b < B := by have := hk04.size; omega
  have hb45 : b4 ≠ b5 := by omega
  have hbb4 : b ≠ b4 := by omega
  have hbb5 : b ≠ b5 := by omega
  have hBw : w.heap.size ≤ B := by have := hk04.size; omega
  obtain ⟨one, hone⟩ : ∃ one, one = exprP ts fin vs (f - 1) := ⟨_, rfl⟩
  rw [← hone]
  obtain ⟨TOT, hTOT⟩ : ∃ TOT, TOT = bnd X1 (fun (k, i1) => rest1 ts fin vs one k i1) := ⟨_, rfl⟩
  rw [← hTOT]
  (repeat (first | refine pl_pure hT rfl rfl rfl ?_ | refine pl_not rfl rfl ?_ | refine pl_nil ?_ | refine rn_inBlock ?_ | refine rn_skip ?_ | refine rn_true rfl ?_ | refine rn_false rfl ?_ | refine rn_exit rfl ?_))
  refine rn_seq ?_
  refine rn_with (fun σ' w' => ∃ (X2 : Except Flt (Int × Nat)) (n : Int), TOT = bnd X2 (fun p => rest2 ts fin vs one kk p.1 p.2) ∧ (∀ p, X2 = .ok p → p.1 = n) ∧ (kk = 0 → ∃ e, X2 = .error e) ∧ Rs w' b lv vv fin (sndX X2) ∧
    Blk w' b5 (xC (kk : Nat) 0 n (.slice none 0 0)) 41 ∧ Blk w' b4 [.int .i64 0, .int .i64 0, .int .i64 0, .slice none 0 0] 41 ∧ Cx w' lv vv ts vs ∧ Keep [b] w w' ∧ B ≤ w'.heap.size ∧
    Sub [(0, .pointer (some ⟨b, 0, none⟩)), (1, .int .i64 (deep : Nat)), (4, .pointer (some ⟨b4, 0, none⟩)), (5, .pointer (some ⟨b5, 0, none⟩))] σ') ?_ ?_
  rotate_left
  · intro fin1
    refine rn_seq ?_
    refine rn_plain ?_
    (repeat (first | refine pl_pure hT rfl rfl rfl ?_ | refine pl_not rfl rfl ?_ | refine pl_nil ?_ | refine rn_inBlock ?_ | refine rn_skip ?_ | refine rn_true rfl ?_ | refine rn_false rfl ?_ | refine rn_exit rfl ?_))
    refine pl_val _ rfl rfl (val_load1 hT rfl rfl rfl (Blk.cell hz4 (by rfl))) ?_
    by_cases hk1' : kk = 1
    · obtain ⟨_, _, _, i1, hX⟩ := hkr (by omega)
      rw [hX] at hr4
      refine pl_yes rfl rfl rfl rfl rfl (by first | (simp only [cmpP]; omega) | (simp [cmpP]; done) | (simp [cmpP]; omega)) ?_
      (repeat (first | refine pl_pure hT rfl rfl rfl ?_ | refine pl_not rfl rfl ?_ | refine pl_nil ?_ | refine rn_inBlock ?_ | refine rn_skip ?_ | refine rn_true rfl ?_ | refine rn_false rfl ?_ | refine rn_exit rfl ?_))
      refine rn_plain ?_
      (repeat (first | refine pl_pure hT rfl rfl rfl ?_ | refine pl_not rfl rfl ?_ | refine pl_nil ?_ | refine rn_inBlock ?_ | refine rn_skip ?_ | refine rn_true rfl ?_ | refine rn_false rfl ?_ | refine rn_exit rfl ?_))
      refine pl_op rfl rfl (opTo_call (fst := []) (cap := []) rfl rfl rfl rfl (by decide +kernel) ((rNumber_ret hcx4 hr4).mono ?_))
      rintro r w5 ⟨hnum, hk5⟩
      have hcx5 := hcx4.keepR hr4 hk5
      have hz5 := hk5.blk hz4 (by simp; omega)
      have hy5 := hk5.blk hy4 (by simp; omega)
      have hn : ∃ n : Int, r = .int .i64 n ∧ (∀ p, numP ts fin i1 = .ok p → p.1 = n) ∧ Rs w5 b lv vv fin (sndX (numP ts fin i1)) := by
        have hnum' : NumR w5 b lv vv fin r (numP ts fin i1) := hnum
        cases hc : numP ts fin i1 with
        | error e =>
          rw [hc] at hnum'
          exact ⟨0, hnum'.1, fun p hp => (by cases hp), hnum'.2⟩
        | ok p =>
          rw [hc] at hnum'
          exact ⟨p.1, hnum'.1, fun q hq => by injection hq with hq; rw [← hq], hnum'.2⟩
      obtain ⟨n, rfl, hn1, hr5⟩ := hn
      (repeat (first | refine pl_pure hT rfl rfl rfl ?_ | refine pl_not rfl rfl ?_ | refine pl_nil ?_ | refine rn_inBlock ?_ | refine rn_skip ?_ | refine rn_true rfl ?_ | refine rn_false rfl ?_ | refine rn_exit rfl ?_))
      refine pl_op rfl rfl (opTo_storeN [.int .i64 n] rfl rfl rfl rfl size_long hz5 (by simp [xC]) (by simp; rfl) ?_)
      intro w6 hs6 hk6 hz6
      have hsp : splice (xC (kk : Nat) 0 0 (.slice none 0 0)) 2 [.int .i64 n] = xC (kk : Nat) 0 n (.slice none 0 0) := rfl
      rw [hsp] at hz6
      (repeat (first | refine pl_pure hT rfl rfl rfl ?_ | refine pl_not rfl rfl ?_ | refine pl_nil ?_ | refine rn_inBlock ?_ | refine rn_skip ?_ | refine rn_true rfl ?_ | refine rn_false rfl ?_ | refine rn_exit rfl ?_))
      refine fin1 _ _ ⟨numP ts fin i1, n, ?_, hn1, fun h0 => by omega, hr5.keep hk6 (by simp; omega), hz6, hk6.blk hy5 (by simp; omega), ?_, ?_, ?_, rfl, rfl, rfl, rfl, trivial⟩
      · rw [hTOT, hX]
        show rest1 ts fin vs one kk i1 = _
        unfold rest1
        rw [if_pos hk1']
      · obtain ⟨B1, ho1⟩ := hcx5.tok
        obtain ⟨B2, ho2⟩ := hcx5.var
        exact ⟨⟨B1, ho1.keep hk6 (by intro k hk'; simp; exact fun e => own_ne ho1 hz5 (by decide) k hk' e.symm)⟩, ⟨B2, ho2.keep hk6 (by intro k hk'; simp; exact fun e => own_ne ho2 hz5 (by decide) k hk' e.symm)⟩, hcx5.len, hcx5.vlen, hcx5.txt⟩
      · exact (hk04.tr hk5).trB hk6 (by omega)
      · have := hk5.size
        have := hk6.size
        omega
    · refine pl_no rfl rfl rfl rfl rfl rfl (by first | (simp only [cmpP]; omega) | (simp [cmpP]; done) | (simp [cmpP]; omega)) ?_
      (repeat (first | refine pl_pure hT rfl rfl rfl ?_ | refine pl_not rfl rfl ?_ | refine pl_nil ?_ | refine rn_inBlock ?_ | refine rn_skip ?_ | refine rn_true rfl ?_ | refine rn_false rfl ?_ | refine rn_exit rfl ?_))
      refine fin1 _ _ ⟨bnd X1 fun p => .ok (0, p.2), 0, ?_, ?_, ?_, ?_, hz4, hy4, hcx4, hk04, by omega, rfl, rfl, rfl, rfl, trivial⟩
      · rw [hTOT]
        by_cases h0 : kk = 0
        · obtain ⟨e, he⟩ := hkk h0
          rw [he]
          rfl
        · obtain ⟨_, _, _, i1, hX⟩ := hkr h0
          rw [hX]
          show rest1 ts fin vs one kk i1 = _
          unfold rest1
          rw [if_neg hk1']
          rfl
      · intro p hp
        obtain ⟨a, _, ha⟩ := bnd_ok hp
        injection ha with ha
        rw [← ha]
      · intro h0
        obtain ⟨e, he⟩ := hkk h0
        exact ⟨e, by rw [he]; rfl⟩
      · have : sndX (bnd X1 fun p => .ok ((0 : Int), p.2)) = sndX X1 := by
          unfold sndX
          cases X1 <;> rfl
        rw [this]
        exact hr4
  rintro σ' w5 ⟨X2, n, hT2, hn2, hk02', hr5, hz5, hy5, hcx5, hk05, hB5w, hsub⟩
  refine rn_sub hsub ?_
  refine rn_seq ?_
  refine rn_with (fun σ' w' => ∃ (X3 : Except Flt (Nat × Nat)) (v : Nat), TOT = bnd X3 (fun p => rest3 ts fin one kk n p.1 p.2) ∧ (∀ p, X3 = .ok p → p.1 = v) ∧ (kk = 0 → ∃ e, X3 = .error e) ∧ Rs w' b lv vv fin (sndX X3) ∧
    Blk w' b5 (xC (kk : Nat) (v : Nat) n (.slice none 0 0)) 41 ∧ Blk w' b4 [.int .i64 0, .int .i64 0, .int .i64 0, .slice none 0 0] 41 ∧ Cx w' lv vv ts vs ∧ Keep [b] w w' ∧ B ≤ w'.heap.size ∧
    Sub [(0, .pointer (some ⟨b, 0, none⟩)), (1, .int .i64 (deep : Nat)), (4, .pointer (some ⟨b4, 0, none⟩)), (5, .pointer (some ⟨b5, 0, none⟩))] σ') ?_ ?_
  rotate_left
  · intro fin2
    by_cases h23 : kk = 2 ∨ kk = 3
    · have key : ∀ (w6 : World) (r : Value), IdxR w6 b lv vv fin r (bnd (sndX X2) (varP ts fin vs)) → Keep [b] w5 w6 → ∃ (v : Nat) (X3 : Except Flt (Nat × Nat)), r = .int .i64 (v : Nat) ∧ TOT = bnd X3 (fun p => rest3 ts fin one kk n p.1 p.2) ∧ (∀ p, X3 = .ok p → p.1 = v) ∧ Rs w6 b lv vv fin (sndX X3) := by
        intro w6 r hv hk6
        have hT3 : TOT = bnd (bnd (sndX X2) (varP ts fin vs)) (fun p => rest3 ts fin one kk n p.1 p.2) := by
          rw [hT2]
          cases X2 with
          | error e => rfl
          | ok p =>
            have := hn2 p rfl
            subst this
            show rest2 ts fin vs one kk p.1 p.2 = bnd (varP ts fin vs p.2) _
            unfold rest2
            rw [if_pos h23]
        cases hc : bnd (sndX X2) (varP ts fin vs) with
        | error e =>
          rw [hc] at hv hT3
          exact ⟨0, .error e, hv.1, hT3, fun p hp => (by cases hp), hv.2⟩
        | ok p =>
          rw [hc] at hv hT3
          exact ⟨p.1, .ok p, hv.1, hT3, fun q hq => by injection hq with hq; rw [← hq], hv.2⟩
      rcases h23 with h2 | h3
      · refine rn_seq ?_
        refine rn_plain ?_
        (repeat (first | refine pl_pure hT rfl rfl rfl ?_ | refine pl_not rfl rfl ?_ | refine pl_nil ?_ | refine rn_inBlock ?_ | refine rn_skip ?_ | refine rn_true rfl ?_ | refine rn_false rfl ?_ | refine rn_exit rfl ?_))
        refine pl_val _ rfl rfl (val_load1 hT rfl rfl rfl (Blk.cell hz5 (by rfl))) ?_
        refine pl_yes rfl rfl rfl rfl rfl (by first | (simp only [cmpP]; omega) | (simp [cmpP]; done) | (simp [cmpP]; omega)) ?_
        (repeat (first | refine pl_pure hT rfl rfl rfl ?_ | refine pl_not rfl rfl ?_ | refine pl_nil ?_ | refine rn_inBlock ?_ | refine rn_skip ?_ | refine rn_true rfl ?_ | refine rn_false rfl ?_ | refine rn_exit rfl ?_))
        refine rn_plain ?_
        (repeat (first | refine pl_pure hT rfl rfl rfl ?_ | refine pl_not rfl rfl ?_ | refine pl_nil ?_ | refine rn_inBlock ?_ | refine rn_skip ?_ | refine rn_true rfl ?_ | refine rn_false rfl ?_ | refine rn_exit rfl ?_))
        refine pl_op rfl rfl (opTo_call (fst := []) (cap := []) rfl rfl rfl rfl (by decide +kernel) ((rVariable_ret hcx5 hr5).mono ?_))
        rintro r w6 ⟨hv, hk6⟩
        obtain ⟨v, X3, rfl, hT3, hv3, hr6⟩ := key w6 r hv hk6
        have hcx6 := hcx5.keepR hr5 hk6
        have hz6 := hk6.blk hz5 (by simp; omega)
        have hy6 := hk6.blk hy5 (by simp; omega)
        (repeat (first | refine pl_pure hT rfl rfl rfl ?_ | refine pl_not rfl rfl ?_ | refine pl_nil ?_ | refine rn_inBlock ?_ | refine rn_skip ?_ | refine rn_true rfl ?_ | refine rn_false rfl ?_ | refine rn_exit rfl ?_))
        refine pl_op rfl rfl (opTo_storeN [.int .i64 ((v : Nat) : Int)] rfl rfl rfl rfl size_int hz6 (by simp [xC]) (by simp; rfl) ?_)
        intro w7 hs7 hk7 hz7
        have hsp : splice (xC (kk : Nat) 0 n (.slice none 0 0)) 1 [.int .i64 ((v : Nat) : Int)] = xC (kk : Nat) (v : Nat) n (.slice none 0 0) := rfl
        rw [hsp] at hz7
        (repeat (first | refine pl_pure hT rfl rfl rfl ?_ | refine pl_not rfl rfl ?_ | refine pl_nil ?_ | refine rn_inBlock ?_ | refine rn_skip ?_ | refine rn_true rfl ?_ | refine rn_false rfl ?_ | refine rn_exit rfl ?_))
        refine fin2 _ _ ⟨X3, v, hT3, hv3, fun h0 => by omega, hr6.keep hk7 (by simp; omega), hz7, hk7.blk hy6 (by simp; omega), ?_, ?_, ?_, rfl, rfl, rfl, rfl, trivial⟩
        · obtain ⟨B1, ho1⟩ := hcx6.tok
          obtain ⟨B2, ho2⟩ := hcx6.var
          exact ⟨⟨B1, ho1.keep hk7 (by intro k hk'; simp; exact fun e => own_ne ho1 hz6 (by decide) k hk' e.symm)⟩, ⟨B2, ho2.keep hk7 (by intro k hk'; simp; exact fun e => own_ne ho2 hz6 (by decide) k hk' e.symm)⟩, hcx6.len, hcx6.vlen, hcx6.txt⟩
        · exact (hk05.tr hk6).trB hk7 (by omega)
        · have := hk6.size
          have := hk7.size
          omega
      · refine rn_seq ?_
        refine rn_plain ?_
        (repeat (first | refine pl_pure hT rfl rfl rfl ?_ | refine pl_not rfl rfl ?_ | refine pl_nil ?_ | refine rn_inBlock ?_ | refine rn_skip ?_ | refine rn_true rfl ?_ | refine rn_false rfl ?_ | refine rn_exit rfl ?_))
        refine pl_val _ rfl rfl (val_load1 hT rfl rfl rfl (Blk.cell hz5 (by rfl))) ?_
        refine pl_no rfl rfl rfl rfl rfl rfl (by first | (simp only [cmpP]; omega) | (simp [cmpP]; done) | (simp [cmpP]; omega)) ?_
        (repeat (first | refine pl_pure hT rfl rfl rfl ?_ | refine pl_not rfl rfl ?_ | refine pl_nil ?_ | refine rn_inBlock ?_ | refine rn_skip ?_ | refine rn_true rfl ?_ | refine rn_false rfl ?_ | refine rn_exit rfl ?_))
        refine pl_val _ rfl rfl (val_load1 hT rfl rfl rfl (Blk.cell hz5 (by rfl))) ?_
        refine pl_yes rfl rfl rfl rfl rfl (by first | (simp only [cmpP]; omega) | (simp [cmpP]; done) | (simp [cmpP]; omega)) ?_
        (repeat (first | refine pl_pure hT rfl rfl rfl ?_ | refine pl_not rfl rfl ?_ | refine pl_nil ?_ | refine rn_inBlock ?_ | refine rn_skip ?_ | refine rn_true rfl ?_ | refine rn_false rfl ?_ | refine rn_exit rfl ?_))
        refine rn_plain ?_
        (repeat (first | refine pl_pure hT rfl rfl rfl ?_ | refine pl_not rfl rfl ?_ | refine pl_nil ?_ | refine rn_inBlock ?_ | refine rn_skip ?_ | refine rn_true rfl ?_ | refine rn_false rfl ?_ | refine rn_exit rfl ?_))
        refine pl_op rfl rfl (opTo_call (fst := []) (cap := []) rfl rfl rfl rfl (by decide +kernel) ((rVariable_ret hcx5 hr5).mono ?_))
        rintro r w6 ⟨hv, hk6⟩
        obtain ⟨v, X3, rfl, hT3, hv3, hr6⟩ := key w6 r hv hk6
        have hcx6 := hcx5.keepR hr5 hk6
        have hz6 := hk6.blk hz5 (by simp; omega)
        have hy6 := hk6.blk hy5 (by simp; omega)
        (repeat (first | refine pl_pure hT rfl rfl rfl ?_ | refine pl_not rfl rfl ?_ | refine pl_nil ?_ | refine rn_inBlock ?_ | refine rn_skip ?_ | refine rn_true rfl ?_ | refine rn_false rfl ?_ | refine rn_exit rfl ?_))
        refine pl_op rfl rfl (opTo_storeN [.int .i64 ((v : Nat) : Int)] rfl rfl rfl rfl size_int hz6 (by simp [xC]) (by simp; rfl) ?_)
        intro w7 hs7 hk7 hz7
        have hsp : splice (xC (kk : Nat) 0 n (.slice none 0 0)) 1 [.int .i64 ((v : Nat) : Int)] = xC (kk : Nat) (v : Nat) n (.slice none 0 0) := rfl
        rw [hsp] at hz7
        (repeat (first | refine pl_pure hT rfl rfl rfl ?_ | refine pl_not rfl rfl ?_ | refine pl_nil ?_ | refine rn_inBlock ?_ | refine rn_skip ?_ | refine rn_true rfl ?_ | refine rn_false rfl ?_ | refine rn_exit rfl ?_))
        refine fin2 _ _ ⟨X3, v, hT3, hv3, fun h0 => by omega, hr6.keep hk7 (by simp; omega), hz7, hk7.blk hy6 (by simp; omega), ?_, ?_, ?_, rfl, rfl, rfl, rfl, trivial⟩
        · obtain ⟨B1, ho1⟩ := hcx6.tok
          obtain ⟨B2, ho2⟩ := hcx6.var
          exact ⟨⟨B1, ho1.keep hk7 (by intro k hk'; simp; exact fun e => own_ne ho1 hz6 (by decide) k hk' e.symm)⟩, ⟨B2, ho2.keep hk7 (by intro k hk'; simp; exact fun e => own_ne ho2 hz6 (by decide) k hk' e.symm)⟩, hcx6.len, hcx6.vlen, hcx6.txt⟩
        · exact (hk05.tr hk6).trB hk7 (by omega)
        · have := hk6.size
          have := hk7.size
          omega
    · refine rn_seq ?_
      refine rn_plain ?_
      (repeat (first | refine pl_pure hT rfl rfl rfl ?_ | refine pl_not rfl rfl ?_ | refine pl_nil ?_ | refine rn_inBlock ?_ | refine rn_skip ?_ | refine rn_true rfl ?_ | refine rn_false rfl ?_ | refine rn_exit rfl ?_))
      refine pl_val _ rfl rfl (val_load1 hT rfl rfl rfl (Blk.cell hz5 (by rfl))) ?_
      refine pl_no rfl rfl rfl rfl rfl rfl (by first | (simp only [cmpP]; omega) | (simp [cmpP]; done) | (simp [cmpP]; omega)) ?_
      (repeat (first | refine pl_pure hT rfl rfl rfl ?_ | refine pl_not rfl rfl ?_ | refine pl_nil ?_ | refine rn_inBlock ?_ | refine rn_skip ?_ | refine rn_true rfl ?_ | refine rn_false rfl ?_ | refine rn_exit rfl ?_))
      refine pl_val _ rfl rfl (val_load1 hT rfl rfl rfl (Blk.cell hz5 (by rfl))) ?_
      refine pl_no rfl rfl rfl rfl rfl rfl (by first | (simp only [cmpP]; omega) | (simp [cmpP]; done) | (simp [cmpP]; omega)) ?_
      (repeat (first | refine pl_pure hT rfl rfl rfl ?_ | refine pl_not rfl rfl ?_ | refine pl_nil ?_ | refine rn_inBlock ?_ | refine rn_skip ?_ | refine rn_true rfl ?_ | refine rn_false rfl ?_ | refine rn_exit rfl ?_))
      refine fin2 _ _ ⟨bnd X2 fun p => .ok (0, p.2), 0, ?_, ?_, ?_, ?_, hz5, hy5, hcx5, hk05, hB5w, rfl, rfl, rfl, rfl, trivial⟩
      · rw [hT2]
        cases X2 with
        | error e => rfl
        | ok p =>
          have := hn2 p rfl
          subst this
          show rest2 ts fin vs one kk p.1 p.2 = _
          unfold rest2
          rw [if_neg h23]
          rfl
      · intro p hp
        obtain ⟨a, _, ha⟩ := bnd_ok hp
        injection ha with ha
        rw [← ha]
      · intro h0
        obtain ⟨e, he⟩ := hk02' h0
        exact ⟨e, by rw [he]; rfl⟩
      · have : sndX (bnd X2 fun p => .ok ((0 : Nat), p.2)) = sndX X2 := by
          unfold sndX
          cases X2 <;> rfl
        rw [this]
        exact hr5
  rintro σ' w6 ⟨X3, v, hT3, hv3, hk03', hr6, hz6, hy6, hcx6, hk06, hB6w, hsub⟩
  refine rn_sub hsub ?_
  refine rn_seq ?_
  obtain ⟨parts, hparts⟩ : ∃ parts, parts = (partsOf ((kk : Nat) : Int)).toNat := ⟨_, rfl⟩
  have hp2 : parts ≤ 2 := by
    by_cases h0 : kk = 0
    · rw [hparts, h0]; decide
    · obtain ⟨h1, h8, _⟩ := hkr h0
      have := partsOf_range kk h1 h8
      omega
  refine rn_with (fun σ' w' => ∃ (X4 : Except Flt (List ET × Nat)) (sl : Value), TOT = bnd X4 (fun p => rest4 ts fin kk n v p.1 p.2) ∧ sl.oneCell' = true ∧ (∀ p, X4 = .ok p → RowE w' B sl p.1) ∧ Rs w' b lv vv fin (sndX X4) ∧
    Blk w' b5 (xC (kk : Nat) (v : Nat) n sl) 41 ∧ Blk w' b4 [.int .i64 0, .int .i64 0, .int .i64 0, .slice none 0 0] 41 ∧ Cx w' lv vv ts vs ∧ Keep [b] w w' ∧ B ≤ w'.heap.size ∧
    Sub [(0, .pointer (some ⟨b, 0, none⟩)), (4, .pointer (some ⟨b4, 0, none⟩)), (5, .pointer (some ⟨b5, 0, none⟩))] σ') ?_ ?_
  rotate_left
  · intro fin3
    refine rn_seq ?_
    refine rn_plain ?_
    (repeat (first | refine pl_pure hT rfl rfl rfl ?_ | refine pl_not rfl rfl ?_ | refine pl_nil ?_ | refine rn_inBlock ?_ | refine rn_skip ?_ | refine rn_true rfl ?_ | refine rn_false rfl ?_ | refine rn_exit rfl ?_))
    refine rn_block ?_
    refine rn_ind (fun m σ w' => ∃ (k : Nat) (X : Except Flt Nat) (l : List ET) (sl : Value), k ≤ 3 ∧ m = 3 - k ∧ sl.oneCell' = true ∧ σ = [(0, .pointer (some ⟨b, 0, none⟩)), (1, .int .i64 (deep : Nat)), (4, .pointer (some ⟨b4, 0, none⟩)), (5, .pointer (some ⟨b5, 0, none⟩)), (6, .int .i64 (k : Nat))] ∧
      TOT = bnd X (fun i => bnd (manyP one (parts - k) i) fun (r, j) => rest4 ts fin kk n v (l ++ r) j) ∧ (okX X = true → l.length = k ∧ k ≤ parts ∧ kk ≠ 0 ∧ RowE w' B sl l) ∧ Rs w' b lv vv fin X ∧
      Blk w' b5 (xC (kk : Nat) (v : Nat) n sl) 41 ∧ Blk w' b4 [.int .i64 0, .int .i64 0, .int .i64 0, .slice none 0 0] 41 ∧ Cx w' lv vv ts vs ∧ Keep [b] w w' ∧ B ≤ w'.heap.size) 3 _ ?_
      ⟨0, sndX X3, [], .slice none 0 0, by omega, by omega, rfl, rfl, ?_, ?_, hr6, hz6, hy6, hcx6, hk06, hB6w⟩ ?_
    · exact ⟨rfl, rfl, rfl, rfl, rfl, trivial⟩
    · rw [hT3, hparts]
      cases X3 with
      | error e => rfl
      | ok p =>
        have := hv3 p rfl
        subst this
        rfl
    · intro hok
      refine ⟨rfl, Nat.zero_le _, ?_, RowE.nil _ _⟩
      intro h0
      obtain ⟨e, he⟩ := hk03' h0
      rw [he] at hok
      cases hok
    rintro m σ w7 ih2 ⟨k, X, l, sl, hk3', rfl, hsl, rfl, hT7, hgood, hr7, hz7, hy7, hcx7, hk07, hB7w⟩
    (repeat (first | refine pl_pure hT rfl rfl rfl ?_ | refine pl_nil ?_ | refine rn_seq ?_ | refine rn_plain ?_ | refine rn_block ?_ | refine rn_inBlock ?_ | refine rn_skip ?_ | refine rn_true rfl ?_ | refine rn_false rfl ?_ | refine rn_exit rfl ?_ | refine pl_not rfl rfl ?_))
    refine pl_val _ rfl rfl (val_load1 hT rfl rfl rfl (Blk.cell hz7 (by rfl))) ?_
    refine pl_op rfl rfl (opTo_call (fst := []) (cap := []) rfl rfl rfl rfl (by decide +kernel) ((partsOf_ret ((kk : Nat) : Int) w7).mono ?_))
    rintro r w8 ⟨rfl, rfl⟩
    by_cases hlt : (k : Int) < partsOf ((kk : Nat) : Int)
    · have hltp : k < parts := by omega
      refine pl_yes rfl rfl rfl rfl rfl (by first | (simp only [cmpP]; omega) | (simp [cmpP]; done) | (simp [cmpP]; omega)) ?_
      (repeat (first | refine pl_pure hT rfl rfl rfl ?_ | refine pl_nil ?_ | refine rn_seq ?_ | refine rn_plain ?_ | refine rn_block ?_ | refine rn_inBlock ?_ | refine rn_skip ?_ | refine rn_true rfl ?_ | refine rn_false rfl ?_ | refine rn_exit rfl ?_ | refine pl_not rfl rfl ?_))
      refine pl_op rfl rfl (opTo_call (fst := []) (cap := []) rfl rfl rfl rfl (by decide +kernel) ((rOk_ret hr7).mono ?_))
      rintro r w9 ⟨rfl, rfl⟩
      cases X with
      | error e =>
        unfold okX
        (repeat (first | refine pl_pure hT rfl rfl rfl ?_ | refine pl_not rfl rfl ?_ | refine pl_nil ?_ | refine rn_inBlock ?_ | refine rn_skip ?_ | refine rn_true rfl ?_ | refine rn_false rfl ?_ | refine rn_exit rfl ?_))
        refine fin3 _ _ ⟨.error e, sl, hT7, hsl, fun p hp => (by cases hp), hr7, hz7, hy7, hcx7, hk07, hB7w, rfl, rfl, rfl, trivial⟩
      | ok j =>
        obtain ⟨hlk, hkp, hkk0, hrow⟩ := hgood rfl
        obtain ⟨h1, h8, hf1, _⟩ := hkr hkk0
        unfold okX
        (repeat (first | refine pl_pure hT rfl rfl rfl ?_ | refine pl_not rfl rfl ?_ | refine pl_nil ?_ | refine rn_inBlock ?_ | refine rn_skip ?_ | refine rn_true rfl ?_ | refine rn_false rfl ?_ | refine rn_exit rfl ?_))
        refine rn_seq ?_
        refine rn_block ?_
        have hkd : Keep [] w9 w9.drew := (Keep.refl _ _).drew
        refine rn_draw (fun w' => True ∧ Blk w' b5 (xC (kk : Nat) (v : Nat) n sl) 41) [9] hMix ?_
        have hz9 := hkd.blk hz7 (by simp)
        have hS : True ∧ Blk w9.drew b5 (xC (kk : Nat) (v : Nat) n sl) 41 := ⟨trivial, hz9⟩
        try (first | refine dr_pure 0 hT rfl (by decide +kernel) rfl rfl rfl ?_ | refine dr_not 0 rfl (by decide +kernel) rfl rfl ?_ | refine dr_val 0 _ rfl (by decide +kernel) rfl rfl (fun w9 hS9 => val_load1 hT rfl rfl rfl (Blk.cell hS9.2 (by rfl))) hS ?_ | refine dr_yes 0 rfl (by decide +kernel) rfl rfl rfl rfl rfl (by first | (simp only [cmpP]; omega) | (simp [cmpP]; done) | (simp [cmpP]; omega)) ?_ | refine dr_no 0 rfl (by decide +kernel) rfl rfl rfl rfl rfl rfl (by first | (simp only [cmpP]; omega) | (simp [cmpP]; done) | (simp [cmpP]; omega)) ?_)
        try (first | refine dr_pure 1 hT rfl (by decide +kernel) rfl rfl rfl ?_ | refine dr_not 1 rfl (by decide +kernel) rfl rfl ?_ | refine dr_val 1 _ rfl (by decide +kernel) rfl rfl (fun w9 hS9 => val_load1 hT rfl rfl rfl (Blk.cell hS9.2 (by rfl))) hS ?_ | refine dr_yes 1 rfl (by decide +kernel) rfl rfl rfl rfl rfl (by first | (simp only [cmpP]; omega) | (simp [cmpP]; done) | (simp [cmpP]; omega)) ?_ | refine dr_no 1 rfl (by decide +kernel) rfl rfl rfl rfl rfl rfl (by first | (simp only [cmpP]; omega) | (simp [cmpP]; done) | (simp [cmpP]; omega)) ?_)
        try (first | refine dr_pure 2 hT rfl (by decide +kernel) rfl rfl rfl ?_ | refine dr_not 2 rfl (by decide +kernel) rfl rfl ?_ | refine dr_val 2 _ rfl (by decide +kernel) rfl rfl (fun w9 hS9 => val_load1 hT rfl rfl rfl (Blk.cell hS9.2 (by rfl))) hS ?_ | refine dr_yes 2 rfl (by decide +kernel) rfl rfl rfl rfl rfl (by first | (simp only [cmpP]; omega) | (simp [cmpP]; done) | (simp [cmpP]; omega)) ?_ | refine dr_no 2 rfl (by decide +kernel) rfl rfl rfl rfl rfl rfl (by first | (simp only [cmpP]; omega) | (simp [cmpP]; done) | (simp [cmpP]; omega)) ?_)
        try (first | refine dr_pure 3 hT rfl (by decide +kernel) rfl rfl rfl ?_ | refine dr_not 3 rfl (by decide +kernel) rfl rfl ?_ | refine dr_val 3 _ rfl (by decide +kernel) rfl rfl (fun w9 hS9 => val_load1 hT rfl rfl rfl (Blk.cell hS9.2 (by rfl))) hS ?_ | refine dr_yes 3 rfl (by decide +kernel) rfl rfl rfl rfl rfl (by first | (simp only [cmpP]; omega) | (simp [cmpP]; done) | (simp [cmpP]; omega)) ?_ | refine dr_no 3 rfl (by decide +kernel) rfl rfl rfl rfl rfl rfl (by first | (simp only [cmpP]; omega) | (simp [cmpP]; done) | (simp [cmpP]; omega)) ?_)
        refine dr_num 4 (((deep + 1 : Nat) : Int)) rfl (by decide +kernel) rfl rfl rfl rfl rfl (by simp only [ariP]; omega) ?_
        refine dr_op 5 rfl (by decide +kernel) rfl rfl (opTo_call (fst := []) (cap := []) rfl rfl rfl rfl (by decide +kernel) ((ih (f - 1) (by omega) (deep + 1) j (by omega) (hcx7.keep0 hkd) (hr7.keep hkd (by simp))).mono ?_))
        rintro r w10 ⟨hex, hk10⟩
        have hr9 : Rs w9.drew b lv vv fin (.ok j) := hr7.keep hkd (by simp)
        have hz10 := hk10.blk hz9 (by simp; omega)
        have hy10 := hk10.blk (hkd.blk hy7 (by simp)) (by simp; omega)
        have hcx10 := (hcx7.keep0 hkd).keepR hr9 hk10
        have hrow10 := (hrow.keep hkd (by simp)).keep hk10 (by simp; omega)
        have hk010 := (hk07.tr0 hkd).tr hk10
        refine ⟨fun _ => ⟨trivial, hz10⟩, ?_⟩
        obtain ⟨cs, rfl, hcs4, hcs1⟩ : ∃ cs : List Value, r = .agg cs.toArray ∧ cs.length = 4 ∧ ∀ u ∈ cs, u.oneCell' = true := by
          cases hc : exprP ts fin vs (f - 1) j with
          | error e => rw [hc] at hex; obtain ⟨⟨cs, h1, h2, h3⟩, _⟩ := hex; exact ⟨cs, h1, h2, h3⟩
          | ok p => obtain ⟨t, j'⟩ := p; rw [hc] at hex; obtain ⟨⟨cs, F, h1, h2, _⟩, _⟩ := hex; exact ⟨cs, h1, h2.length, h2.one⟩
        obtain ⟨c0, c1, c2, c3, rfl⟩ := list4 hcs4
        refine dr_op 6 rfl (by decide +kernel) rfl rfl (opTo_sliceN _ _ rfl rfl (slice_one c0 c1 c2 c3) ?_)
        intro w11 g11 hg11 hs11 hk11 hb11
        have hz11 := hk11.blk hz10 (by simp)
        have hy11 := hk11.blk hy10 (by simp)
        have hcx11 := hcx10.keep0 hk11
        have hrow11 := hrow10.keep hk11 (by simp)
        have hk011 := hk010.tr0 hk11
        refine ⟨fun _ => ⟨trivial, hz11⟩, ?_⟩
        obtain ⟨xs, hown11⟩ := hrow11.own
        have hB11 : B ≤ w11.heap.size := by have := hk10.size; have := hk11.size; have : w9.drew.heap.size = w9.heap.size := rfl; omega
        refine dr_op 7 rfl (by decide +kernel) rfl rfl (opTo_app B 41 4 48 xs [c0, c1, c2, c3] rfl rfl rfl (by decide +kernel) hown11 (hb11.range (by rfl)) rfl hcs1 (by decide) (by simp only [maxLen]; omega) (by omega) hB11 ?_)
        intro g12 cap12 w12 hown12 hor12
        have hk012 : Keep [b] w w12 := by
          rcases hor12 with ⟨h1, _, h2⟩ | ⟨_, h2, _⟩
          · exact hk011.trB h2 (by have := (hown11.lt g12 h1).1; omega)
          · exact hk011.tr0 h2
        have hne : ∀ c, c < B → sl.ownBlock ≠ some c := fun c hc e => by have := (hown11.lt c e).1; omega
        have hz12 := app_blk hz11 (fun k hk e => hne b5 hB5 (e ▸ hk)) hor12
        have hy12 := app_blk hy11 (fun k hk e => hne b4 hB4 (e ▸ hk)) hor12
        refine ⟨fun _ => ⟨trivial, hz12⟩, ?_⟩
        refine dr_pure 8 hT rfl (by decide +kernel) rfl rfl rfl ?_
        refine dr_op 9 rfl (by decide +kernel) rfl rfl (opTo_storeN [.slice (some ⟨g12, 0, none⟩) (l.length + 1) cap12] rfl rfl rfl rfl size_exprs hz12 (by simp [xC]) (by simp; rfl) ?_)
        intro w13 hs13 hk13 hz13
        have hsp : splice (xC (kk : Nat) (v : Nat) n sl) 3 [.slice (some ⟨g12, 0, none⟩) (l.length + 1) cap12] = xC (kk : Nat) (v : Nat) n (.slice (some ⟨g12, 0, none⟩) (l.length + 1) cap12) := rfl
        rw [hsp] at hz13
        refine ⟨fun h => absurd (by simp) h, ?_⟩
        refine dr_done (by decide +kernel) ?_
        have hfp12 : ∃ fp, (∀ c ∈ fp, c = g12) ∧ (∀ c ∈ fp, B ≤ c) ∧ Keep fp w11 w12 := by
          rcases hor12 with ⟨h1, _, h2⟩ | ⟨_, h2, _⟩
          · exact ⟨[g12], by simp, by simp; exact (hown11.lt g12 h1).1, h2⟩
          · exact ⟨[], by simp, by simp, h2⟩
        obtain ⟨fp, hfp1, hfpB, hk12⟩ := hfp12
        have hrs12 : ∀ Y, Rs w10 b lv vv fin Y → Rs w13 b lv vv fin Y := fun Y hY =>
          ((hY.keep hk11 (by simp)).keep hk12 (fun hm => by have := hfpB b hm; omega)).keep hk13 (by simp; omega)
        have hcx13 : Cx w13 lv vv ts vs := by
          obtain ⟨B1, ho1⟩ := hcx11.tok
          obtain ⟨B2, ho2⟩ := hcx11.var
          have hg : ∀ {e sz nn : Nat} {vv : Value} {ys : List Value} {B' : Nat}, e ≠ 41 → Own w11 B' e sz vv nn ys → Own w13 B' e sz vv nn ys := by
            intro e sz nn vv ys B' hne' ho
            have h12 : Own w12 B' e sz vv nn ys := by
              rcases hor12 with ⟨h1, _, h2⟩ | ⟨_, h2, _⟩
              · refine ho.keep h2 (fun k hk => ?_)
                simp
                intro e'
                subst e'
                rcases hown11.2 with ⟨hv, _⟩ | ⟨g', c', cur', hv, _, hg', _⟩
                · rw [hv] at h1; simp [Value.ownBlock] at h1
                · rw [hv] at h1
                  simp [Value.ownBlock] at h1
                  subst h1
                  exact own_ne ho hg' (fun e'' => hne' e''.symm) _ hk rfl
              · exact ho.keep h2 (by simp)
            exact h12.keep hk13 (fun k hk => by simp; exact fun e' => own_ne h12 hz12 (fun e'' => hne' e''.symm) k hk e'.symm)
          exact ⟨⟨B1, hg (by decide) ho1⟩, ⟨B2, hg (by decide) ho2⟩, hcx11.len, hcx11.vlen, hcx11.txt⟩
        have hy13 := hk13.blk hy12 (by simp; omega)
        have hk013 : Keep [b] w w13 := hk012.trB hk13 (by omega)
        have hB13 : B ≤ w13.heap.size := by have := hk12.size; have := hk13.size; omega
        (repeat (first | refine pl_pure hT rfl rfl rfl ?_ | refine pl_nil ?_ | refine rn_seq ?_ | refine rn_plain ?_ | refine rn_block ?_ | refine rn_inBlock ?_ | refine rn_skip ?_ | refine rn_true rfl ?_ | refine rn_false rfl ?_ | refine rn_exit rfl ?_ | refine pl_not rfl rfl ?_))
        refine pl_num (((k + 1 : Nat) : Int)) rfl rfl rfl rfl rfl (by simp only [ariP]; omega) ?_
        (repeat (first | refine pl_pure hT rfl rfl rfl ?_ | refine pl_nil ?_ | refine rn_seq ?_ | refine rn_plain ?_ | refine rn_block ?_ | refine rn_inBlock ?_ | refine rn_skip ?_ | refine rn_true rfl ?_ | refine rn_false rfl ?_ | refine rn_exit rfl ?_ | refine pl_not rfl rfl ?_))
        have hstep : parts - k = (parts - (k + 1)) + 1 := by omega
        cases hc : exprP ts fin vs (f - 1) j with
        | error e =>
          rw [hc] at hex
          obtain ⟨_, hre⟩ := hex
          refine rn_sub ?_ (ih2 _ _ _ ?_ ⟨k + 1, .error e, l, .slice (some ⟨g12, 0, none⟩) (l.length + 1) cap12, by omega, rfl, rfl, rfl, ?_, fun h => (by cases h), hrs12 _ hre, hz13, hy13, hcx13, hk013, hB13⟩)
          · exact ⟨rfl, rfl, rfl, rfl, rfl, trivial⟩
          · omega
          · rw [hT7]
            show bnd (manyP one (parts - k) j) _ = _
            rw [hstep, manyP, hone, hc]
            rfl
        | ok p =>
          obtain ⟨t, j'⟩ := p
          rw [hc] at hex
          obtain ⟨⟨cs', F', he1, he2, he3⟩, hre⟩ := hex
          have ecs : cs' = [c0, c1, c2, c3] := by
            injection he1 with he1
            have := congrArg Array.toList he1
            simpa using this.symm
          subst ecs
          have hrow12 : RowE w12 B (.slice (some ⟨g12, 0, none⟩) (l.length + 1) cap12) (l ++ [t]) := by
            refine hrow11.app (he2.keep hk11 (fun c hc' => ⟨(he3 c hc').2, by simp⟩)) (fun c hc' => ?_) (fun ys hys => ?_) hor12
            · have h3 := he3 c hc'
              have hsz : w9.drew.heap.size = w9.heap.size := rfl
              refine ⟨by omega, by have := hk11.size; omega, fun e' => ?_⟩
              have := (hrow.keep hkd (by simp)).own
              obtain ⟨zs, hz⟩ := this
              have := (hz.lt c e').2
              omega
            · have : ys = xs := hys.eq hown11
              subst this
              exact hown12
          have hrow13 := hrow12.keep hk13 (by simp; omega)
          refine rn_sub ?_ (ih2 _ _ _ ?_ ⟨k + 1, .ok j', l ++ [t], .slice (some ⟨g12, 0, none⟩) (l.length + 1) cap12, by omega, rfl, rfl, rfl, ?_, fun _ => ⟨by simp [hlk], hltp, hkk0, hrow13⟩, hrs12 _ hre, hz13, hy13, hcx13, hk013, hB13⟩)
          · exact ⟨rfl, rfl, rfl, rfl, rfl, trivial⟩
          · omega
          · rw [hT7]
            show bnd (manyP one (parts - k) j) _ = bnd (manyP one (parts - (k + 1)) j') _
            rw [hstep, manyP, hone, hc]
            show bnd (bnd (manyP (exprP ts fin vs (f - 1)) (parts - (k + 1)) j') _) _ = _
            cases manyP (exprP ts fin vs (f - 1)) (parts - (k + 1)) j' with
            | error e => rfl
            | ok q =>
              obtain ⟨r', k'⟩ := q
              show rest4 ts fin kk n v (l ++ t :: r') k' = rest4 ts fin kk n v (l ++ [t] ++ r') k'
              rw [List.append_assoc]
              rfl
    · refine pl_no rfl rfl rfl rfl rfl rfl (by first | (simp only [cmpP]; omega) | (simp [cmpP]; done) | (simp [cmpP]; omega)) ?_
      (repeat (first | refine pl_pure hT rfl rfl rfl ?_ | refine pl_not rfl rfl ?_ | refine pl_nil ?_ | refine rn_inBlock ?_ | refine rn_skip ?_ | refine rn_true rfl ?_ | refine rn_false rfl ?_ | refine rn_exit rfl ?_))
      refine fin3 _ _ ⟨bnd X fun i => .ok (l, i), sl, ?_, hsl, ?_, ?_, hz7, hy7, hcx7, hk07, hB7w, rfl, rfl, rfl, trivial⟩
      · rw [hT7]
        cases X with
        | error e => rfl
        | ok j =>
          have e0 : parts - k = 0 := by omega
          rw [e0]
          show rest4 ts fin kk n v (l ++ []) j = rest4 ts fin kk n v l j
          rw [List.append_nil]
      · intro p hp
        obtain ⟨a, ha1, ha2⟩ := bnd_ok hp
        injection ha2 with ha2
        subst ha2
        exact (hgood (by rw [ha1]; rfl)).2.2.2
      · have : sndX (bnd X fun i => .ok (l, i)) = X := by
          unfold sndX
          cases X <;> rfl
        rw [this]
        exact hr7
  rintro σ' w7 ⟨X4, sl, hT4, hsl, hrow4, hr7, hz7, hy7, hcx7, hk07, hB7w, hsub⟩
  refine rn_sub hsub ?_
  (repeat (first | refine pl_pure hT rfl rfl rfl ?_ | refine pl_nil ?_ | refine rn_seq ?_ | refine rn_plain ?_ | refine rn_block ?_ | refine rn_inBlock ?_ | refine rn_skip ?_ | refine rn_true rfl ?_ | refine rn_false rfl ?_ | refine rn_exit rfl ?_ | refine pl_not rfl rfl ?_))
  refine pl_op rfl rfl (opTo_call (fst := []) (cap := []) rfl rfl rfl rfl (by decide +kernel) ((rMust_ret hcx7 hr7 [41]).mono ?_))
  rintro r w8 ⟨hr8, hk8⟩
  have hz8 := hk8.blk hz7 (by simp; omega)
  have hy8 := hk8.blk hy7 (by simp; omega)
  (repeat (first | refine pl_pure hT rfl rfl rfl ?_ | refine pl_nil ?_ | refine rn_seq ?_ | refine rn_plain ?_ | refine rn_block ?_ | refine rn_inBlock ?_ | refine rn_skip ?_ | refine rn_true rfl ?_ | refine rn_false rfl ?_ | refine rn_exit rfl ?_ | refine pl_not rfl rfl ?_))
  refine pl_val _ rfl rfl (val_load (xC (kk : Nat) (v : Nat) n sl) hT rfl rfl rfl (hz8.range (by rfl))) ?_
  refine pl_op rfl rfl (opTo_storeN (xC (kk : Nat) (v : Nat) n sl) rfl rfl rfl rfl size_expr hy8 (by simp [xC]) (xC_one hsl) ?_)
  intro w9 hs9 hk9 hy9
  rw [splice_whole (by rfl)] at hy9
  (repeat (first | refine pl_pure hT rfl rfl rfl ?_ | refine pl_nil ?_ | refine rn_seq ?_ | refine rn_plain ?_ | refine rn_block ?_ | refine rn_inBlock ?_ | refine rn_skip ?_ | refine rn_true rfl ?_ | refine rn_false rfl ?_ | refine rn_exit rfl ?_ | refine pl_not rfl rfl ?_))
  have hr9 := hr8.keep hk9 (by simp; omega)
  have hk09 : Keep [b] w w9 := (hk07.tr hk8).trB hk9 (by omega)
  refine rn_ret Tryz.func44 (.inr (.inr (.inl ⟨_, _, _, rfl, rfl, blk_loadVar hT hy9 rfl⟩))) ⟨?_, hk09⟩
  rw [hT4]
  cases X4 with
  | error e => exact ⟨⟨_, rfl, rfl, xC_one hsl⟩, hr9⟩
  | ok p =>
    obtain ⟨l, i4⟩ := p
    have hr9' : Rs w9 b lv vv fin (mustP ts fin [41] i4) := hr9
    show ExpR w w9 b lv vv fin _ (rest4 ts fin kk n v l i4)
    unfold rest4
    cases hc : mustP ts fin [41] i4 with
    | error e => rw [hc] at hr9'; exact ⟨⟨_, rfl, rfl, xC_one hsl⟩, hr9'⟩
    | ok i5 =>
      rw [hc] at hr9'
      obtain ⟨F, hF1, hF2⟩ := (((hrow4 _ rfl).keep hk8 (by simp; omega)).keep hk9 (by simp; omega)).exprs
      exact ⟨⟨xC (kk : Nat) (v : Nat) n sl, F, rfl, ExprV.of hF1, fun c hc' => by have := hF2 c hc'; omega⟩, hr9'⟩
end E
end Go.Proofs.YthbkcadiejfgaacGreatDoor
