/- Several texts in one: RpF, RpG. -/
import Derived.Test.YthbkcadiejfgaacGreatDoorJ13
/- Contract of the document's reader: a list of statements, for whatever reads one. -/
namespace Go.Proofs.YthbkcadiejfgaacGreatDoor
set_option maxRecDepth 20000
set_option maxHeartbeats 4000000
namespace E
open Go.Proofs

/-- What stmt tells. -/
def StmR (w0 w : World) (b : Nat) (lv vv : Value) (fin : Nat) (r : Value) : Except Flt (ST × Nat) → Prop
  | .ok (t, j) => (∃ (cs : List Value) (F : Nat → Prop), r = .agg cs.toArray ∧ StmtV F w cs t ∧ ∀ c, F c → w0.heap.size ≤ c ∧ c < w.heap.size) ∧ Rs w b lv vv fin (.ok j)
  | .error e => (∃ cs : List Value, r = .agg cs.toArray ∧ cs.length = 12 ∧ ∀ u ∈ cs, u.oneCell' = true) ∧ Rs w b lv vv fin (.error e)
/-- What list tells. -/
def LisR (w0 w : World) (b : Nat) (lv vv : Value) (fin : Nat) (r : Value) : Except Flt (List ST × Nat) → Prop
  | .ok (l, j) => (∃ F : Nat → Prop, StmtsV F w r l ∧ ∀ c, F c → w0.heap.size ≤ c ∧ c < w.heap.size) ∧ Rs w b lv vv fin (.ok j)
  | .error e => (∃ a n c, r = .slice a n c) ∧ Rs w b lv vv fin (.error e)
/-- One more statement in a row, and what stays. -/
theorem cx_app {w w' : World} {B g ln m : Nat} {lv vv sl : Value} {ts : List Tok} {vs : List VarT} {xs : List Value} (hx : Cx w lv vv ts vs) (hown : Own w B 43 12 sl ln xs)
    (hor : (sl.ownBlock = some g ∧ ln + m ≤ capOf sl ∧ Keep [g] w w') ∨ (g = w.heap.size ∧ Keep [] w w' ∧ w'.heap.size = w.heap.size + 1)) : Cx w' lv vv ts vs := by
  obtain ⟨B1, ho1⟩ := hx.tok
  obtain ⟨B2, ho2⟩ := hx.var
  have hg : ∀ {e sz nn : Nat} {vv : Value} {ys : List Value} {B' : Nat}, e ≠ 43 → Own w B' e sz vv nn ys → Own w' B' e sz vv nn ys := by
    intro e sz nn vv ys B' hne' ho
    rcases hor with ⟨h1, _, h2⟩ | ⟨_, h2, _⟩
    · refine ho.keep h2 (fun k hk => ?_)
      simp
      intro e'
      subst e'
      rcases hown.2 with ⟨hv, _⟩ | ⟨g', c', cur', hv, _, hg', _⟩
      · rw [hv] at h1; simp [Value.ownBlock] at h1
      · rw [hv] at h1
        simp [Value.ownBlock] at h1
        subst h1
        exact own_ne ho hg' (fun e'' => hne' e''.symm) _ hk rfl
    · exact ho.keep h2 (by simp)
  exact ⟨⟨B1, hg (by decide) ho1⟩, ⟨B2, hg (by decide) ho2⟩, hx.len, hx.vlen, hx.txt⟩

theorem rList_ret {b fin : Nat} {lv vv : Value} {ts : List Tok} {vs : List VarT} {one : Nat → Except Flt (ST × Nat)} {deep : Nat} (hone : ∀ i r, one i = .ok r → i < r.2 ∧ r.2 ≤ ts.length)
    (hst : ∀ (i : Nat) (w : World), Cx w lv vv ts vs → Rs w b lv vv fin (.ok i) → Ret Tryz.prog 24 [.pointer (some ⟨b, 0, none⟩), .int .i64 (deep : Nat)] w fun r w' => StmR w w' b lv vv fin r (one i) ∧ Keep [b] w w')
    {x : Except Flt Nat} {w : World} (hx : Cx w lv vv ts vs) (h : Rs w b lv vv fin x) :
    Ret Tryz.prog 45 [.pointer (some ⟨b, 0, none⟩), .int .i64 (deep : Nat)] w fun r w' => LisR w w' b lv vv fin r (bnd x (listP ts fin one)) ∧ Keep [b] w w' := by
  have hbw := h.lt
  have hlen := hx.len
  refine ret_of 24 Tryz.func45 rfl rfl (by simp) ?_
  (repeat (first | refine pl_pure hT rfl rfl rfl ?_ | refine pl_nil ?_ | refine rn_seq ?_ | refine rn_plain ?_ | refine rn_block ?_ | refine rn_inBlock ?_ | refine rn_skip ?_ | refine rn_true rfl ?_ | refine rn_false rfl ?_ | refine rn_exit rfl ?_ | refine pl_not rfl rfl ?_))
  refine pl_op rfl rfl (opTo_call (fst := []) (cap := []) rfl rfl rfl rfl (by decide +kernel) ((rMust_ret hx h [40]).mono ?_))
  rintro r w1 ⟨hr1, hk1⟩
  have hcx1 := hx.keepR h hk1
  obtain ⟨TOT, hTOT⟩ : ∃ TOT, TOT = bnd x (listP ts fin one) := ⟨_, rfl⟩
  rw [← hTOT]
  have hT1 : TOT = bnd (bnd x (mustP ts fin [40])) (fun i => bnd (untilP (fun j => isT ts j [41]) one (ts.length + 1 - i) i) fun (r, k) => bnd (mustP ts fin [41] k) fun m => .ok ([] ++ r, m)) := by
    rw [hTOT]
    cases x <;> rfl
  obtain ⟨B, hB⟩ : ∃ B, B = w.heap.size := ⟨_, rfl⟩
  have hle1 : ∀ i, bnd x (mustP ts fin [40]) = .ok i → i ≤ ts.length := by
    intro i hi
    obtain ⟨a, _, ha⟩ := bnd_ok hi
    have := mustP_ok ha
    omega
  (repeat (first | refine pl_pure hT rfl rfl rfl ?_ | refine pl_not rfl rfl ?_ | refine pl_nil ?_ | refine rn_inBlock ?_ | refine rn_skip ?_ | refine rn_true rfl ?_ | refine rn_false rfl ?_ | refine rn_exit rfl ?_))
  refine rn_seq ?_
  refine rn_with (fun σ' w' => ∃ (X : Except Flt (List ST × Nat)) (sl : Value), TOT = bnd X (fun p => bnd (mustP ts fin [41] p.2) fun m => .ok (p.1, m)) ∧ (∃ a n c, sl = .slice a n c) ∧ (∀ p, X = .ok p → RowS w' B sl p.1) ∧ Rs w' b lv vv fin (sndX X) ∧ Cx w' lv vv ts vs ∧ Keep [b] w w' ∧
    Sub [(0, .pointer (some ⟨b, 0, none⟩)), (5, sl)] σ') ?_ ?_
  rotate_left
  · intro fin1
    refine rn_block ?_
    refine rn_ind (fun m σ w' => ∃ (X : Except Flt Nat) (l : List ST) (sl : Value), m = (match X with | .ok i => ts.length + 1 - i | .error _ => 0) ∧ (∃ a n c, sl = .slice a n c) ∧ σ = [(0, .pointer (some ⟨b, 0, none⟩)), (1, .int .i64 (deep : Nat)), (5, sl)] ∧
      TOT = bnd X (fun i => bnd (untilP (fun j => isT ts j [41]) one (ts.length + 1 - i) i) fun (r, k) => bnd (mustP ts fin [41] k) fun m => .ok (l ++ r, m)) ∧ (∀ i, X = .ok i → l.length ≤ i ∧ i ≤ ts.length ∧ RowS w' B sl l) ∧ Rs w' b lv vv fin X ∧ Cx w' lv vv ts vs ∧ Keep [b] w w')
      _ _ ?_ ⟨bnd x (mustP ts fin [40]), [], .slice none 0 0, rfl, ⟨_, _, _, rfl⟩, rfl, hT1, fun i hi => ⟨Nat.zero_le _, hle1 i hi, RowS.nil _ _⟩, hr1, hcx1, hk1⟩ ?_
    · exact ⟨rfl, rfl, rfl, trivial⟩
    rintro m σ w2 ih ⟨X, l, sl, rfl, hsl, rfl, hT2, hgood, hr2, hcx2, hk2⟩
    (repeat (first | refine pl_pure hT rfl rfl rfl ?_ | refine pl_nil ?_ | refine rn_seq ?_ | refine rn_plain ?_ | refine rn_block ?_ | refine rn_inBlock ?_ | refine rn_skip ?_ | refine rn_true rfl ?_ | refine rn_false rfl ?_ | refine rn_exit rfl ?_ | refine pl_not rfl rfl ?_))
    refine pl_op rfl rfl (opTo_call (fst := []) (cap := []) rfl rfl rfl rfl (by decide +kernel) ((rOk_ret hr2).mono ?_))
    rintro r w3 ⟨rfl, rfl⟩
    cases X with
    | error e =>
      unfold okX
      (repeat (first | refine pl_pure hT rfl rfl rfl ?_ | refine pl_not rfl rfl ?_ | refine pl_nil ?_ | refine rn_inBlock ?_ | refine rn_skip ?_ | refine rn_true rfl ?_ | refine rn_false rfl ?_ | refine rn_exit rfl ?_))
      exact fin1 _ _ ⟨.error e, sl, hT2, hsl, fun p hp => (by cases hp), hr2, hcx2, hk2, rfl, rfl, trivial⟩
    | ok i =>
      obtain ⟨hli, hil, hrow⟩ := hgood i rfl
      unfold okX
      (repeat (first | refine pl_pure hT rfl rfl rfl ?_ | refine pl_nil ?_ | refine rn_seq ?_ | refine rn_plain ?_ | refine rn_block ?_ | refine rn_inBlock ?_ | refine rn_skip ?_ | refine rn_true rfl ?_ | refine rn_false rfl ?_ | refine rn_exit rfl ?_ | refine pl_not rfl rfl ?_))
      refine pl_op rfl rfl (opTo_call (fst := []) (cap := []) rfl rfl rfl rfl (by decide +kernel) ((rIs_ret hcx2 hr2 [41]).mono ?_))
      rintro r w4 ⟨rfl, hk4⟩
      have hr4 := hr2.keep hk4 (by simp)
      have hcx4 := hcx2.keep0 hk4
      have hrow4 := hrow.keep hk4 (by simp)
      have hk04 := hk2.tr0 hk4
      show Pl _ _ _ _ _ _ _ (put _ _ (.bool (isT ts i [41]))) _
      obtain ⟨q, hq⟩ : ∃ q, q = isT ts i [41] := ⟨_, rfl⟩
      rw [← hq]
      have hu : untilP (fun j => isT ts j [41]) one (ts.length + 1 - i) i = if isT ts i [41] then .ok ([], i) else bnd (one i) fun (t, j) => bnd (untilP (fun j => isT ts j [41]) one (ts.length - i) j) fun (r, k) => .ok (t :: r, k) := by
        have e : ts.length + 1 - i = (ts.length - i) + 1 := by omega
        rw [e]
        rfl
      cases q with
      | true =>
        (repeat (first | refine pl_pure hT rfl rfl rfl ?_ | refine pl_not rfl rfl ?_ | refine pl_nil ?_ | refine rn_inBlock ?_ | refine rn_skip ?_ | refine rn_true rfl ?_ | refine rn_false rfl ?_ | refine rn_exit rfl ?_))
        refine fin1 _ _ ⟨.ok (l, i), sl, ?_, hsl, fun p hp => ?_, hr4, hcx4, hk04, rfl, rfl, trivial⟩
        · rw [hT2]
          show bnd (untilP _ one (ts.length + 1 - i) i) _ = _
          rw [hu, ← hq]
          show bnd (mustP ts fin [41] i) _ = bnd (mustP ts fin [41] i) _
          simp only [List.append_nil]
        · injection hp with hp
          subst hp
          exact hrow4
      | false =>
        (repeat (first | refine pl_pure hT rfl rfl rfl ?_ | refine pl_nil ?_ | refine rn_seq ?_ | refine rn_plain ?_ | refine rn_block ?_ | refine rn_inBlock ?_ | refine rn_skip ?_ | refine rn_true rfl ?_ | refine rn_false rfl ?_ | refine rn_exit rfl ?_ | refine pl_not rfl rfl ?_))
        refine pl_op rfl rfl (opTo_call (fst := []) (cap := []) rfl rfl rfl rfl (by decide +kernel) ((hst i _ hcx4 hr4).mono ?_))
        rintro r w5 ⟨hex, hk5⟩
        have hcx5 := hcx4.keepR hr4 hk5
        have hrow5 := hrow4.keep hk5 (by simp; omega)
        have hk05 := hk04.tr hk5
        obtain ⟨cs, rfl, hcs4, hcs1⟩ : ∃ cs : List Value, r = .agg cs.toArray ∧ cs.length = 12 ∧ ∀ u ∈ cs, u.oneCell' = true := by
          cases hc : one i with
          | error e => rw [hc] at hex; obtain ⟨⟨cs, h1, h2, h3⟩, _⟩ := hex; exact ⟨cs, h1, h2, h3⟩
          | ok p => obtain ⟨t, j'⟩ := p; rw [hc] at hex; obtain ⟨⟨cs, F, h1, h2, _⟩, _⟩ := hex; exact ⟨cs, h1, h2.length, h2.one⟩
        obtain ⟨c0, c1, c2, c3, c4, c5, c6, c7, c8, c9, c10, c11, rfl⟩ := list12 hcs4
        refine pl_op rfl rfl (opTo_sliceN _ _ rfl rfl (slice_stmt c0 c1 c2 c3 c4 c5 c6 c7 c8 c9 c10 c11) ?_)
        intro w6 g6 hg6 hs6 hk6 hb6
        have hcx6 := hcx5.keep0 hk6
        have hrow6 := hrow5.keep hk6 (by simp)
        have hk06 := hk05.tr0 hk6
        obtain ⟨xs, hown6⟩ := hrow6.own
        have hB6 : B ≤ w6.heap.size := by have := hk06.size; omega
        refine pl_op rfl rfl (opTo_app B 43 12 160 xs [c0, c1, c2, c3, c4, c5, c6, c7, c8, c9, c10, c11] rfl rfl rfl (by decide +kernel) hown6 (hb6.range (by rfl)) rfl hcs1 (by decide) (by simp only [maxLen]; omega) (by omega) hB6 ?_)
        intro g7 cap7 w7 hown7 hor7
        have hk07 : Keep [b] w w7 := by
          rcases hor7 with ⟨h1, _, h2⟩ | ⟨_, h2, _⟩
          · exact hk06.trB h2 (by have := (hown6.lt g7 h1).1; omega)
          · exact hk06.tr0 h2
        have hcx7 := cx_app hcx6 hown6 hor7
        have hrs7 : ∀ Y, Rs w5 b lv vv fin Y → Rs w7 b lv vv fin Y := fun Y hY => by
          have h6 := hY.keep hk6 (by simp)
          rcases hor7 with ⟨h1, _, h2⟩ | ⟨_, h2, _⟩
          · exact h6.keep h2 (by simp; have := (hown6.lt g7 h1).1; omega)
          · exact h6.keep h2 (by simp)
        (repeat (first | refine pl_pure hT rfl rfl rfl ?_ | refine pl_nil ?_ | refine rn_seq ?_ | refine rn_plain ?_ | refine rn_block ?_ | refine rn_inBlock ?_ | refine rn_skip ?_ | refine rn_true rfl ?_ | refine rn_false rfl ?_ | refine rn_exit rfl ?_ | refine pl_not rfl rfl ?_))
        cases hc : one i with
        | error e =>
          rw [hc] at hex
          obtain ⟨_, hre⟩ := hex
          refine rn_sub ?_ (ih _ _ _ ?_ ⟨.error e, l, .slice (some ⟨g7, 0, none⟩) (l.length + 1) cap7, rfl, ⟨_, _, _, rfl⟩, rfl, ?_, fun i hi => (by cases hi), hrs7 _ hre, hcx7, hk07⟩)
          · exact ⟨rfl, rfl, rfl, trivial⟩
          · show 0 < ts.length + 1 - i
            omega
          · rw [hT2]
            show bnd (untilP _ one (ts.length + 1 - i) i) _ = _
            rw [hu, ← hq, hc]
            rfl
        | ok p =>
          obtain ⟨t, j'⟩ := p
          have hadv := hone i _ hc
          dsimp only at hadv
          rw [hc] at hex
          obtain ⟨⟨cs', F', he1, he2, he3⟩, hre⟩ := hex
          have ecs : cs' = [c0, c1, c2, c3, c4, c5, c6, c7, c8, c9, c10, c11] := by
            injection he1 with he1
            have := congrArg Array.toList he1
            simpa using this.symm
          subst ecs
          have hrow7 : RowS w7 B (.slice (some ⟨g7, 0, none⟩) (l.length + 1) cap7) (l ++ [t]) := by
            refine hrow6.app (he2.keep hk6 (fun c hc' => ⟨(he3 c hc').2, by simp⟩)) (fun c hc' => ?_) (fun ys hys => ?_) hor7
            · have h3 := he3 c hc'
              refine ⟨by have := hk04.size; omega, by have := hk6.size; omega, fun e' => ?_⟩
              obtain ⟨zs, hz⟩ := hrow4.own
              have := (hz.lt c e').2
              omega
            · have : ys = xs := hys.eq hown6
              subst this
              exact hown7
          refine rn_sub ?_ (ih _ _ _ ?_ ⟨.ok j', l ++ [t], .slice (some ⟨g7, 0, none⟩) (l.length + 1) cap7, rfl, ⟨_, _, _, rfl⟩, rfl, ?_, fun i' hi' => ?_, hrs7 _ hre, hcx7, hk07⟩)
          · exact ⟨rfl, rfl, rfl, trivial⟩
          · show ts.length + 1 - j' < ts.length + 1 - i
            omega
          · rw [hT2]
            show bnd (untilP _ one (ts.length + 1 - i) i) _ = bnd (untilP _ one (ts.length + 1 - j') j') _
            rw [hu, ← hq, hc]
            show bnd (bnd (untilP _ one (ts.length - i) j') _) _ = _
            rw [untilP_fuel hone (ts.length - i) (ts.length + 1 - j') j' hadv.2 (by omega) (by omega)]
            cases untilP (fun j => isT ts j [41]) one (ts.length + 1 - j') j' with
            | error e => rfl
            | ok q =>
              obtain ⟨r', k'⟩ := q
              show bnd (mustP ts fin [41] k') _ = bnd (mustP ts fin [41] k') _
              simp only [List.append_assoc, List.singleton_append]
          · injection hi' with hi'
            subst hi'
            exact ⟨by simp; omega, hadv.2, hrow7⟩
  rintro σ' w2 ⟨X, sl, hT2, ⟨a, nn, cc, rfl⟩, hrow, hr2, hcx2, hk2, hsub⟩
  refine rn_sub hsub ?_
  (repeat (first | refine pl_pure hT rfl rfl rfl ?_ | refine pl_nil ?_ | refine rn_seq ?_ | refine rn_plain ?_ | refine rn_block ?_ | refine rn_inBlock ?_ | refine rn_skip ?_ | refine rn_true rfl ?_ | refine rn_false rfl ?_ | refine rn_exit rfl ?_ | refine pl_not rfl rfl ?_))
  refine pl_op rfl rfl (opTo_call (fst := []) (cap := []) rfl rfl rfl rfl (by decide +kernel) ((rMust_ret hcx2 hr2 [41]).mono ?_))
  rintro r w3 ⟨hr3, hk3⟩
  (repeat (first | refine pl_pure hT rfl rfl rfl ?_ | refine pl_nil ?_ | refine rn_seq ?_ | refine rn_plain ?_ | refine rn_block ?_ | refine rn_inBlock ?_ | refine rn_skip ?_ | refine rn_true rfl ?_ | refine rn_false rfl ?_ | refine rn_exit rfl ?_ | refine pl_not rfl rfl ?_))
  refine rn_ret Tryz.func45 (.inl ⟨_, rfl, rfl⟩) ⟨?_, hk2.tr hk3⟩
  rw [hT2]
  cases X with
  | error e => exact ⟨⟨_, _, _, rfl⟩, hr3⟩
  | ok p =>
    obtain ⟨l, k⟩ := p
    have hr3' : Rs w3 b lv vv fin (mustP ts fin [41] k) := hr3
    show LisR _ _ _ _ _ _ _ (bnd (mustP ts fin [41] k) _)
    cases hc : mustP ts fin [41] k with
    | error e => rw [hc] at hr3'; exact ⟨⟨_, _, _, rfl⟩, hr3'⟩
    | ok m =>
      rw [hc] at hr3'
      obtain ⟨F, hF1, hF2⟩ := ((hrow _ rfl).keep hk3 (by simp; omega)).stmts
      exact ⟨⟨F, hF1, fun c hc' => by have := hF2 c hc'; omega⟩, hr3'⟩
end E
end Go.Proofs.YthbkcadiejfgaacGreatDoor

/- Contract of the document's reader: a statement. -/
namespace Go.Proofs.YthbkcadiejfgaacGreatDoor
set_option maxRecDepth 20000
set_option maxHeartbeats 4000000
namespace E
open Go.Proofs

theorem verbOf_of (k : Nat) (w : World) (h1 : 1 ≤ k) (h8 : k ≤ 7) : Ret Tryz.prog 12 [.int .i64 (k : Nat)] w fun r w' => r = .string (str (verbT k)) ∧ Keep [] w w' := by
  have := verbR_ret (k : Nat) w
  unfold verbI at this
  rw [if_pos (by omega), Int.toNat_natCast] at this
  exact this

theorem rStmt_ret {b fin : Nat} {lv vv : Value} {ts : List Tok} {vs : List VarT} : ∀ (f deep i : Nat) {w : World}, deep + f = 13 → Cx w lv vv ts vs → Rs w b lv vv fin (.ok i) →
    Ret Tryz.prog 24 [.pointer (some ⟨b, 0, none⟩), .int .i64 (deep : Nat)] w fun r w' => StmR w w' b lv vv fin r (stmtP ts fin vs f i) ∧ Keep [b] w w' := by
  intro f
  induction f using Nat.strongRecOn with
  | _ f ih =>
  intro deep i w hdf hx h
  have hbw := h.lt
  refine ret_of 59 Tryz.func24 rfl rfl (by simp) ?_
  (repeat (first | refine pl_pure hT rfl rfl rfl ?_ | refine pl_nil ?_ | refine rn_seq ?_ | refine rn_plain ?_ | refine rn_block ?_ | refine rn_inBlock ?_ | refine rn_skip ?_ | refine rn_true rfl ?_ | refine rn_false rfl ?_ | refine rn_exit rfl ?_ | refine pl_not rfl rfl ?_))
  refine pl_op rfl rfl (opTo_allocN _ rfl zero_st ?_)
  intro w1 b4 hb40 hs1 hk1 hz1
  have hr1 := h.keep hk1 (by simp)
  have hcx1 := hx.keep0 hk1
  (repeat (first | refine pl_pure hT rfl rfl rfl ?_ | refine pl_nil ?_ | refine rn_seq ?_ | refine rn_plain ?_ | refine rn_block ?_ | refine rn_inBlock ?_ | refine rn_skip ?_ | refine rn_true rfl ?_ | refine rn_false rfl ?_ | refine rn_exit rfl ?_ | refine pl_not rfl rfl ?_))
  refine pl_op rfl rfl (opTo_call (fst := []) (cap := []) rfl rfl rfl rfl (by decide +kernel) ((rBegin_ret (g := 12) (of := verbT) (most := 7) hcx1 hr1 deep (by omega) (by decide) (by decide +kernel) verbOf_of).mono ?_))
  rintro r w2 ⟨hidx, hk2⟩
  rw [stmtP_eq ts fin vs hdf i]
  obtain ⟨X1, hX1⟩ : ∃ X1, X1 = bnd (if 12 < deep then .error (wrongAt ts fin 4 i) else .ok i) (beginP ts fin verbT 7) := ⟨_, rfl⟩
  rw [← hX1] at hidx ⊢
  have hcx2 := hcx1.keepR hr1 hk2
  have hz2 := hk2.blk hz1 (by simp; omega)
  have hk02 : Keep [b] w w2 := (Keep.of0 hk1).tr hk2
  have hw2 : w1.heap.size ≤ w2.heap.size := hk2.size
  obtain ⟨kk, rfl, hkk, hr2, hkr⟩ : ∃ kk : Nat, r = .int .i64 (kk : Nat) ∧ (kk = 0 → ∃ e, X1 = .error e) ∧ Rs w2 b lv vv fin (sndX X1) ∧ (kk ≠ 0 → 1 ≤ f ∧ ∃ i1, X1 = .ok (kk, i1)) := by
    cases hc : X1 with
    | error e =>
      rw [hc] at hidx
      exact ⟨0, hidx.1, fun _ => ⟨e, rfl⟩, hidx.2, fun h => absurd rfl h⟩
    | ok p =>
      obtain ⟨k, i1⟩ := p
      rw [hc] at hidx
      have hd : ¬ 12 < deep := by
        intro hd
        rw [if_pos hd] at hX1
        rw [hc] at hX1
        cases hX1
      rw [if_neg hd, hc] at hX1
      have hb := beginP_ok hX1.symm
      refine ⟨k, hidx.1, fun h0 => by have := hb.2.2.1; dsimp only at this; omega, hidx.2, fun _ => ⟨by omega, i1, rfl⟩⟩
  refine pl_val _ rfl rfl (val_build _ rfl rfl (built_st (kk : Nat)) w2) ?_
  refine pl_op rfl rfl (opTo_allocN _ rfl zero_st ?_)
  intro w3 b5 hb50 hs3 hk3 hz3
  refine pl_op rfl rfl (opTo_storeN (scells (kk : Nat) 0 zx zx (.slice none 0 0) (.slice none 0 0)) rfl rfl rfl rfl size_st hz3 (Nat.le_refl _) (scells_one Fm.zero) ?_)
  intro w4 hs4 hk4 hz4
  rw [splice_whole (by rfl)] at hz4
  have hk24 : Keep [] w2 w4 := hk3.trB hk4 (by omega)
  have hr4 := hr2.keep hk24 (by simp)
  have hcx4 := hcx2.keep0 hk24
  have hy4 := hk24.blk hz2 (by simp)
  have hk04 : Keep [b] w w4 := hk02.tr0 hk24
  obtain ⟨B, hB⟩ : ∃ B, B = w4.heap.size := ⟨_, rfl⟩
  have hB4 : b4 < B := by have := hy4.lt; omega
  have hB5 : b5 < B := by have := hz4.lt; omega
  have hbB : b < B := by have := hk04.size; omega
  have hb45 : b4 ≠ b5 := by omega
  have hbb4 : b ≠ b4 := by omega
  have hbb5 : b ≠ b5 := by omega
  have hBw : w.heap.size ≤ B := by have := hk04.size; omega
  have hw5 : w.heap.size ≤ b5 := by have := hk02.size; omega
  obtain ⟨ex, hex⟩ : ∃ ex, ex = exprP ts fin vs (f - 1) := ⟨_, rfl⟩
  obtain ⟨one, hone⟩ : ∃ one, one = stmtP ts fin vs (f - 1) := ⟨_, rfl⟩
  rw [← hex, ← hone]
  obtain ⟨TOT, hTOT⟩ : ∃ TOT, TOT = bnd X1 (fun (k, i1) => st1 ts fin vs ex one k i1) := ⟨_, rfl⟩
  rw [← hTOT]
  obtain ⟨nE, nF, nV, nB, nO⟩ := needC_all ((kk : Nat) : Int)
  have hcx' : ∀ {w5 w6 : World} {L : List Value}, Cx w5 lv vv ts vs → Blk w5 b5 L 43 → Keep [b5] w5 w6 → Cx w6 lv vv ts vs := by
    intro w5 w6 L hc hz hk
    obtain ⟨B1, ho1⟩ := hc.tok
    obtain ⟨B2, ho2⟩ := hc.var
    exact ⟨⟨B1, ho1.keep hk (by intro k hk'; simp; exact fun e => own_ne ho1 hz (by decide) k hk' e.symm)⟩, ⟨B2, ho2.keep hk (by intro k hk'; simp; exact fun e => own_ne ho2 hz (by decide) k hk' e.symm)⟩, hc.len, hc.vlen, hc.txt⟩
  have hf1 : ∀ Y, X1 = .ok Y → 1 ≤ f := by
    intro Y hY
    by_cases h0 : kk = 0
    · obtain ⟨e, he⟩ := hkk h0
      rw [hY] at he; cases he
    · exact (hkr h0).1
  -- behind begin
  have hT1 : TOT = bnd (sndX X1) (fun i1 => st1 ts fin vs ex one kk i1) := by
    rw [hTOT]
    by_cases h0 : kk = 0
    · obtain ⟨e, he⟩ := hkk h0
      rw [he]
      rfl
    · obtain ⟨_, i1, hX⟩ := hkr h0
      rw [hX]
      rfl
  have hok1 : okX (sndX X1) = true → 1 ≤ f := by
    cases hc : X1 with
    | error e => intro h; cases h
    | ok p => intro _; exact hf1 p hc
  have hg4 : okX (sndX X1) = true → Gd w4 B zeroT zeroT [] [] zx zx (.slice none 0 0) (.slice none 0 0) := fun _ => Gd.zero
  generalize sndX X1 = XA at *
  (repeat (first | refine pl_pure hT rfl rfl rfl ?_ | refine pl_not rfl rfl ?_ | refine pl_nil ?_ | refine rn_inBlock ?_ | refine rn_skip ?_ | refine rn_true rfl ?_ | refine rn_false rfl ?_ | refine rn_exit rfl ?_))
  refine rn_seq ?_
  refine rn_with (fun σ' w' => ∃ (X : Except Flt Nat) (v : Nat) (e g : ET) (lb lo : List ST) (ce cf : List Value) (bv ov : Value), TOT = bnd X (fun i => st2 ts fin ex one kk v i) ∧ (okX X = true → 1 ≤ f) ∧ (okX X = true → Gd w' B e g lb lo ce cf bv ov) ∧ (e = zeroT ∧ g = zeroT ∧ lb = [] ∧ lo = [] ∧ cf = zx ∧ bv = .slice none 0 0 ∧ ov = .slice none 0 0) ∧ Fm ce cf bv ov ∧ Rs w' b lv vv fin X ∧
    Blk w' b5 (scells (kk : Nat) (v : Nat) ce cf bv ov) 43 ∧ Blk w' b4 zst 43 ∧ Cx w' lv vv ts vs ∧ Keep [b] w w' ∧ B ≤ w'.heap.size ∧ Sub [(0, .pointer (some ⟨b, 0, none⟩)), (1, .int .i64 (deep : Nat)), (4, .pointer (some ⟨b4, 0, none⟩)), (5, .pointer (some ⟨b5, 0, none⟩))] σ') ?_ ?_
  rotate_left
  · intro fin1
    refine rn_seq ?_
    refine rn_plain ?_
    (repeat (first | refine pl_pure hT rfl rfl rfl ?_ | refine pl_not rfl rfl ?_ | refine pl_nil ?_ | refine rn_inBlock ?_ | refine rn_skip ?_ | refine rn_true rfl ?_ | refine rn_false rfl ?_ | refine rn_exit rfl ?_))
    refine pl_val _ rfl rfl (val_load1 hT rfl rfl rfl (Blk.cell hz4 (by rfl))) ?_
    refine pl_op rfl rfl (opTo_call (fst := []) (cap := []) rfl rfl rfl rfl (by decide +kernel) ((needed_ret ((kk : Nat) : Int) 118 w4).mono ?_))
    rintro r w5 ⟨rfl, rfl⟩
    rw [nV]
    obtain ⟨q, hq⟩ : ∃ q, q = needV ((kk : Nat) : Int) := ⟨_, rfl⟩
    rw [← hq]
    cases q with
    | true =>
      (repeat (first | refine pl_pure hT rfl rfl rfl ?_ | refine pl_not rfl rfl ?_ | refine pl_nil ?_ | refine rn_inBlock ?_ | refine rn_skip ?_ | refine rn_true rfl ?_ | refine rn_false rfl ?_ | refine rn_exit rfl ?_))
      refine rn_plain ?_
      (repeat (first | refine pl_pure hT rfl rfl rfl ?_ | refine pl_not rfl rfl ?_ | refine pl_nil ?_ | refine rn_inBlock ?_ | refine rn_skip ?_ | refine rn_true rfl ?_ | refine rn_false rfl ?_ | refine rn_exit rfl ?_))
      refine pl_op rfl rfl (opTo_call (fst := []) (cap := []) rfl rfl rfl rfl (by decide +kernel) ((rVariable_ret hcx4 hr4).mono ?_))
      rintro r w6 ⟨hv, hk6⟩
      have hcx6 := hcx4.keepR hr4 hk6
      have hz6 := hk6.blk hz4 (by simp; omega)
      have hy6 := hk6.blk hy4 (by simp; omega)
      obtain ⟨v, X3, rfl, hT3, hv3, hr6, hok3⟩ : ∃ (v : Nat) (X3 : Except Flt (Nat × Nat)), r = .int .i64 (v : Nat) ∧ X3 = bnd XA (varP ts fin vs) ∧ (∀ p, X3 = .ok p → p.1 = v) ∧ Rs w6 b lv vv fin (sndX X3) ∧ (okX (sndX X3) = true → okX XA = true) := by
        have hok : okX (sndX (bnd XA (varP ts fin vs))) = true → okX XA = true := by
          cases XA with
          | error e => exact fun h => h
          | ok i => exact fun _ => rfl
        cases hc : bnd XA (varP ts fin vs) with
        | error e =>
          rw [hc] at hv hok
          exact ⟨0, .error e, hv.1, rfl, fun p hp => (by cases hp), hv.2, hok⟩
        | ok p =>
          rw [hc] at hv hok
          exact ⟨p.1, .ok p, hv.1, rfl, fun q hq => by injection hq with hq; rw [← hq], hv.2, hok⟩
      (repeat (first | refine pl_pure hT rfl rfl rfl ?_ | refine pl_not rfl rfl ?_ | refine pl_nil ?_ | refine rn_inBlock ?_ | refine rn_skip ?_ | refine rn_true rfl ?_ | refine rn_false rfl ?_ | refine rn_exit rfl ?_))
      refine pl_op rfl rfl (opTo_storeN [.int .i64 ((v : Nat) : Int)] rfl rfl rfl rfl size_int hz6 (by rw [scells_len Fm.zero]; simp) (by simp; rfl) ?_)
      intro w7 hs7 hk7 hz7
      rw [sp_v] at hz7
      (repeat (first | refine pl_pure hT rfl rfl rfl ?_ | refine pl_not rfl rfl ?_ | refine pl_nil ?_ | refine rn_inBlock ?_ | refine rn_skip ?_ | refine rn_true rfl ?_ | refine rn_false rfl ?_ | refine rn_exit rfl ?_))
      refine fin1 _ _ ⟨sndX X3, v, zeroT, zeroT, [], [], zx, zx, .slice none 0 0, .slice none 0 0, ?_, fun h => hok1 (hok3 h), fun h => (((hg4 (hok3 h)).keep hk6 (by simp; omega)).keep hk7 (by simp; omega)), ⟨rfl, rfl, rfl, rfl, rfl, rfl, rfl⟩, Fm.zero, hr6.keep hk7 (by simp; omega), hz7, hk7.blk hy6 (by simp; omega), hcx' hcx6 hz6 hk7, (hk04.tr hk6).trB hk7 (by omega), ?_, rfl, rfl, rfl, rfl, trivial⟩
      · rw [hT1]
        have e1 : bnd XA (fun i1 => st1 ts fin vs ex one kk i1) = bnd X3 (fun p => st2 ts fin ex one kk p.1 p.2) := by
          rw [hT3]
          cases XA with
          | error e => rfl
          | ok i =>
            show st1 ts fin vs ex one kk i = bnd (varP ts fin vs i) _
            unfold st1
            rw [if_pos hq.symm]
        rw [e1]
        cases X3 with
        | error e => rfl
        | ok p =>
          have := hv3 p rfl
          subst this
          rfl
      · have := hk6.size
        have := hk7.size
        omega
    | false =>
      (repeat (first | refine pl_pure hT rfl rfl rfl ?_ | refine pl_not rfl rfl ?_ | refine pl_nil ?_ | refine rn_inBlock ?_ | refine rn_skip ?_ | refine rn_true rfl ?_ | refine rn_false rfl ?_ | refine rn_exit rfl ?_))
      refine fin1 _ _ ⟨XA, 0, zeroT, zeroT, [], [], zx, zx, .slice none 0 0, .slice none 0 0, ?_, hok1, hg4, ⟨rfl, rfl, rfl, rfl, rfl, rfl, rfl⟩, Fm.zero, hr4, hz4, hy4, hcx4, hk04, by omega, rfl, rfl, rfl, rfl, trivial⟩
      rw [hT1]
      cases XA with
      | error e => rfl
      | ok i =>
        show st1 ts fin vs ex one kk i = _
        unfold st1
        rw [← hq]
        rfl
  rintro σ' w5 ⟨X, v, e, g, lb, lo, ce, cf, bv, ov, hTT, hokf, hgd, ⟨rfl, rfl, rfl, rfl, rfl, rfl, rfl⟩, hfm, hr, hz, hy, hcx, hk0, hBs, hsub⟩
  refine rn_sub hsub ?_
  refine rn_seq ?_
  refine rn_with (fun σ' w' => ∃ (X : Except Flt Nat) (v : Nat) (e g : ET) (lb lo : List ST) (ce cf : List Value) (bv ov : Value), TOT = bnd X (fun i => st3 ts fin ex one kk v e i) ∧ (okX X = true → 1 ≤ f) ∧ (okX X = true → Gd w' B e g lb lo ce cf bv ov) ∧ (g = zeroT ∧ lb = [] ∧ lo = [] ∧ cf = zx ∧ bv = .slice none 0 0 ∧ ov = .slice none 0 0) ∧ Fm ce cf bv ov ∧ Rs w' b lv vv fin X ∧
    Blk w' b5 (scells (kk : Nat) (v : Nat) ce cf bv ov) 43 ∧ Blk w' b4 zst 43 ∧ Cx w' lv vv ts vs ∧ Keep [b] w w' ∧ B ≤ w'.heap.size ∧ Sub [(0, .pointer (some ⟨b, 0, none⟩)), (1, .int .i64 (deep : Nat)), (4, .pointer (some ⟨b4, 0, none⟩)), (5, .pointer (some ⟨b5, 0, none⟩))] σ') ?_ ?_
  rotate_left
  · intro fin1
    clear hsub
    refine rn_seq ?_
    refine rn_plain ?_
    (repeat (first | refine pl_pure hT rfl rfl rfl ?_ | refine pl_not rfl rfl ?_ | refine pl_nil ?_ | refine rn_inBlock ?_ | refine rn_skip ?_ | refine rn_true rfl ?_ | refine rn_false rfl ?_ | refine rn_exit rfl ?_))
    refine pl_val _ rfl rfl (val_load1 hT rfl rfl rfl (Blk.cell hz (by rfl))) ?_
    refine pl_op rfl rfl (opTo_call (fst := []) (cap := []) rfl rfl rfl rfl (by decide +kernel) ((needed_ret ((kk : Nat) : Int) 101 _).mono ?_))
    rintro r w6 ⟨rfl, rfl⟩
    rw [nE]
    obtain ⟨q, hq⟩ : ∃ q, q = needE ((kk : Nat) : Int) := ⟨_, rfl⟩
    rw [← hq]
    cases q with
    | false =>
      (repeat (first | refine pl_pure hT rfl rfl rfl ?_ | refine pl_not rfl rfl ?_ | refine pl_nil ?_ | refine rn_inBlock ?_ | refine rn_skip ?_ | refine rn_true rfl ?_ | refine rn_false rfl ?_ | refine rn_exit rfl ?_))
      refine fin1 _ _ ⟨X, v, zeroT, zeroT, [], [], ce, zx, .slice none 0 0, .slice none 0 0, ?_, hokf, hgd, ⟨rfl, rfl, rfl, rfl, rfl, rfl⟩, hfm, hr, hz, hy, hcx, hk0, hBs, rfl, rfl, rfl, rfl, trivial⟩
      rw [hTT]
      cases X with
      | error e => rfl
      | ok i =>
        show st2 ts fin ex one kk v i = _
        unfold st2
        rw [← hq]
        rfl
    | true =>
      (repeat (first | refine pl_pure hT rfl rfl rfl ?_ | refine pl_not rfl rfl ?_ | refine pl_nil ?_ | refine rn_inBlock ?_ | refine rn_skip ?_ | refine rn_true rfl ?_ | refine rn_false rfl ?_ | refine rn_exit rfl ?_))
      refine pl_op rfl rfl (opTo_call (fst := []) (cap := []) rfl rfl rfl rfl (by decide +kernel) ((rOk_ret hr).mono ?_))
      rintro r w7 ⟨rfl, rfl⟩
      cases X with
      | error e0 =>
        unfold okX
        (repeat (first | refine pl_pure hT rfl rfl rfl ?_ | refine pl_not rfl rfl ?_ | refine pl_nil ?_ | refine rn_inBlock ?_ | refine rn_skip ?_ | refine rn_true rfl ?_ | refine rn_false rfl ?_ | refine rn_exit rfl ?_))
        exact fin1 _ _ ⟨.error e0, v, zeroT, zeroT, [], [], ce, zx, .slice none 0 0, .slice none 0 0, hTT, hokf, hgd, ⟨rfl, rfl, rfl, rfl, rfl, rfl⟩, hfm, hr, hz, hy, hcx, hk0, hBs, rfl, rfl, rfl, rfl, trivial⟩
      | ok i =>
        have hfp := hokf rfl
        unfold okX
        (repeat (first | refine pl_pure hT rfl rfl rfl ?_ | refine pl_not rfl rfl ?_ | refine pl_nil ?_ | refine rn_inBlock ?_ | refine rn_skip ?_ | refine rn_true rfl ?_ | refine rn_false rfl ?_ | refine rn_exit rfl ?_))
        refine rn_plain ?_
        (repeat (first | refine pl_pure hT rfl rfl rfl ?_ | refine pl_not rfl rfl ?_ | refine pl_nil ?_ | refine rn_inBlock ?_ | refine rn_skip ?_ | refine rn_true rfl ?_ | refine rn_false rfl ?_ | refine rn_exit rfl ?_))
        refine pl_num (((deep + 1 : Nat) : Int)) rfl rfl rfl rfl rfl (by simp only [ariP]; omega) ?_
        refine pl_op rfl rfl (opTo_call (fst := []) (cap := []) rfl rfl rfl rfl (by decide +kernel) ((rExpr_ret (f - 1) (deep + 1) i (by omega) hcx hr).mono ?_))
        rintro r w8 ⟨hE, hk8⟩
        have hcx8 := hcx.keepR hr hk8
        have hz8 := hk8.blk hz (by simp; omega)
        have hy8 := hk8.blk hy (by simp; omega)
        have hgd8 := (hgd rfl).keep hk8 (by simp; omega)
        obtain ⟨cs, rfl, hcs4, hcs1⟩ : ∃ cs : List Value, r = .agg cs.toArray ∧ cs.length = 4 ∧ ∀ u ∈ cs, u.oneCell' = true := by
          cases hc : exprP ts fin vs (f - 1) i with
          | error e => rw [hc] at hE; obtain ⟨⟨cs, h1, h2, h3⟩, _⟩ := hE; exact ⟨cs, h1, h2, h3⟩
          | ok p => obtain ⟨t, j'⟩ := p; rw [hc] at hE; obtain ⟨⟨cs, F, h1, h2, _⟩, _⟩ := hE; exact ⟨cs, h1, h2.length, h2.one⟩
        (repeat (first | refine pl_pure hT rfl rfl rfl ?_ | refine pl_not rfl rfl ?_ | refine pl_nil ?_ | refine rn_inBlock ?_ | refine rn_skip ?_ | refine rn_true rfl ?_ | refine rn_false rfl ?_ | refine rn_exit rfl ?_))
        refine pl_op rfl rfl (opTo_storeN cs rfl rfl rfl rfl (by rw [hcs4]; exact size_expr) hz8 (by rw [scells_len hfm, hcs4]; decide) hcs1 ?_)
        intro w9 hs9 hk9 hz9
        have hzz := sp_e (op := ((kk : Nat) : Int)) (v := ((v : Nat) : Int)) hfm hcs4
        have hz9' : Blk w9 b5 (scells (kk : Nat) (v : Nat) cs zx (.slice none 0 0) (.slice none 0 0)) 43 := by
          rw [← hzz]
          exact hz9
        have hfm9 : Fm cs zx (.slice none 0 0) (.slice none 0 0) := ⟨hcs4, hfm.lf, hcs1, hfm.of, hfm.bv, hfm.ov⟩
        (repeat (first | refine pl_pure hT rfl rfl rfl ?_ | refine pl_not rfl rfl ?_ | refine pl_nil ?_ | refine rn_inBlock ?_ | refine rn_skip ?_ | refine rn_true rfl ?_ | refine rn_false rfl ?_ | refine rn_exit rfl ?_))
        cases hc : exprP ts fin vs (f - 1) i with
        | error e0 =>
          rw [hc] at hE
          refine fin1 _ _ ⟨.error e0, v, zeroT, zeroT, [], [], cs, zx, .slice none 0 0, .slice none 0 0, ?_, fun h => (by cases h), fun h => (by cases h), ⟨rfl, rfl, rfl, rfl, rfl, rfl⟩, hfm9, hE.2.keep hk9 (by simp; omega), hz9', hk9.blk hy8 (by simp; omega), hcx' hcx8 hz8 hk9, (hk0.tr hk8).trB hk9 (by omega), by have := hk8.size; have := hk9.size; omega, rfl, rfl, rfl, rfl, trivial⟩
          rw [hTT]
          show st2 ts fin ex one kk v i = _
          unfold st2
          rw [← hq, if_pos rfl, hex, hc]
          rfl
        | ok p =>
          obtain ⟨t, j'⟩ := p
          rw [hc] at hE
          obtain ⟨⟨cs', F', he1, he2, he3⟩, hre⟩ := hE
          have ecs : cs' = cs := by
            injection he1 with he1
            have := congrArg Array.toList he1
            simpa using this.symm
          subst ecs
          refine fin1 _ _ ⟨.ok j', v, t, zeroT, [], [], cs', zx, .slice none 0 0, .slice none 0 0, ?_, fun _ => hfp, fun _ => ?_, ⟨rfl, rfl, rfl, rfl, rfl, rfl⟩, hfm9, hre.keep hk9 (by simp; omega), hz9', hk9.blk hy8 (by simp; omega), hcx' hcx8 hz8 hk9, (hk0.tr hk8).trB hk9 (by omega), by have := hk8.size; have := hk9.size; omega, rfl, rfl, rfl, rfl, trivial⟩
          · rw [hTT]
            show st2 ts fin ex one kk v i = _
            unfold st2
            rw [← hq, if_pos rfl, hex, hc]
            rfl
          · obtain ⟨F, hF, h1, h2, h3, h4⟩ := hgd8
            refine Gd.keep (w := w8) ⟨fun c => F c ∨ F' c, ?_, he2.mono fun c h => .inr h, h2.mono fun c h => .inl h, h3.mono fun c h => .inl h, h4.mono fun c h => .inl h⟩ hk9 (by simp; omega)
            rintro c (h | h)
            · exact hF c h
            · have := he3 c h
              exact ⟨by omega, this.2⟩
  rintro σ' w5 ⟨X, v, e, g, lb, lo, ce, cf, bv, ov, hTT, hokf, hgd, ⟨rfl, rfl, rfl, rfl, rfl, rfl⟩, hfm, hr, hz, hy, hcx, hk0, hBs, hsub⟩
  refine rn_sub hsub ?_
  refine rn_seq ?_
  refine rn_with (fun σ' w' => ∃ (X : Except Flt Nat) (v : Nat) (e g : ET) (lb lo : List ST) (ce cf : List Value) (bv ov : Value), TOT = bnd X (fun i => st4 ts fin one kk v e g i) ∧ (okX X = true → 1 ≤ f) ∧ (okX X = true → Gd w' B e g lb lo ce cf bv ov) ∧ (lb = [] ∧ lo = [] ∧ bv = .slice none 0 0 ∧ ov = .slice none 0 0) ∧ Fm ce cf bv ov ∧ Rs w' b lv vv fin X ∧
    Blk w' b5 (scells (kk : Nat) (v : Nat) ce cf bv ov) 43 ∧ Blk w' b4 zst 43 ∧ Cx w' lv vv ts vs ∧ Keep [b] w w' ∧ B ≤ w'.heap.size ∧ Sub [(0, .pointer (some ⟨b, 0, none⟩)), (1, .int .i64 (deep : Nat)), (4, .pointer (some ⟨b4, 0, none⟩)), (5, .pointer (some ⟨b5, 0, none⟩))] σ') ?_ ?_
  rotate_left
  · intro fin1
    clear hsub
    refine rn_seq ?_
    refine rn_plain ?_
    (repeat (first | refine pl_pure hT rfl rfl rfl ?_ | refine pl_not rfl rfl ?_ | refine pl_nil ?_ | refine rn_inBlock ?_ | refine rn_skip ?_ | refine rn_true rfl ?_ | refine rn_false rfl ?_ | refine rn_exit rfl ?_))
    refine pl_val _ rfl rfl (val_load1 hT rfl rfl rfl (Blk.cell hz (by rfl))) ?_
    refine pl_op rfl rfl (opTo_call (fst := []) (cap := []) rfl rfl rfl rfl (by decide +kernel) ((needed_ret ((kk : Nat) : Int) 102 _).mono ?_))
    rintro r w6 ⟨rfl, rfl⟩
    rw [nF]
    obtain ⟨q, hq⟩ : ∃ q, q = needF ((kk : Nat) : Int) := ⟨_, rfl⟩
    rw [← hq]
    cases q with
    | false =>
      (repeat (first | refine pl_pure hT rfl rfl rfl ?_ | refine pl_not rfl rfl ?_ | refine pl_nil ?_ | refine rn_inBlock ?_ | refine rn_skip ?_ | refine rn_true rfl ?_ | refine rn_false rfl ?_ | refine rn_exit rfl ?_))
      refine fin1 _ _ ⟨X, v, e, zeroT, [], [], ce, zx, .slice none 0 0, .slice none 0 0, ?_, hokf, hgd, ⟨rfl, rfl, rfl, rfl⟩, hfm, hr, hz, hy, hcx, hk0, hBs, rfl, rfl, rfl, rfl, trivial⟩
      rw [hTT]
      cases X with
      | error e => rfl
      | ok i =>
        show st3 ts fin ex one kk v e i = _
        unfold st3
        rw [← hq]
        rfl
    | true =>
      (repeat (first | refine pl_pure hT rfl rfl rfl ?_ | refine pl_not rfl rfl ?_ | refine pl_nil ?_ | refine rn_inBlock ?_ | refine rn_skip ?_ | refine rn_true rfl ?_ | refine rn_false rfl ?_ | refine rn_exit rfl ?_))
      refine pl_op rfl rfl (opTo_call (fst := []) (cap := []) rfl rfl rfl rfl (by decide +kernel) ((rOk_ret hr).mono ?_))
      rintro r w7 ⟨rfl, rfl⟩
      cases X with
      | error e0 =>
        unfold okX
        (repeat (first | refine pl_pure hT rfl rfl rfl ?_ | refine pl_not rfl rfl ?_ | refine pl_nil ?_ | refine rn_inBlock ?_ | refine rn_skip ?_ | refine rn_true rfl ?_ | refine rn_false rfl ?_ | refine rn_exit rfl ?_))
        exact fin1 _ _ ⟨.error e0, v, e, zeroT, [], [], ce, zx, .slice none 0 0, .slice none 0 0, hTT, hokf, hgd, ⟨rfl, rfl, rfl, rfl⟩, hfm, hr, hz, hy, hcx, hk0, hBs, rfl, rfl, rfl, rfl, trivial⟩
      | ok i =>
        have hfp := hokf rfl
        unfold okX
        (repeat (first | refine pl_pure hT rfl rfl rfl ?_ | refine pl_not rfl rfl ?_ | refine pl_nil ?_ | refine rn_inBlock ?_ | refine rn_skip ?_ | refine rn_true rfl ?_ | refine rn_false rfl ?_ | refine rn_exit rfl ?_))
        refine rn_plain ?_
        (repeat (first | refine pl_pure hT rfl rfl rfl ?_ | refine pl_not rfl rfl ?_ | refine pl_nil ?_ | refine rn_inBlock ?_ | refine rn_skip ?_ | refine rn_true rfl ?_ | refine rn_false rfl ?_ | refine rn_exit rfl ?_))
        refine pl_num (((deep + 1 : Nat) : Int)) rfl rfl rfl rfl rfl (by simp only [ariP]; omega) ?_
        refine pl_op rfl rfl (opTo_call (fst := []) (cap := []) rfl rfl rfl rfl (by decide +kernel) ((rExpr_ret (f - 1) (deep + 1) i (by omega) hcx hr).mono ?_))
        rintro r w8 ⟨hE, hk8⟩
        have hcx8 := hcx.keepR hr hk8
        have hz8 := hk8.blk hz (by simp; omega)
        have hy8 := hk8.blk hy (by simp; omega)
        have hgd8 := (hgd rfl).keep hk8 (by simp; omega)
        obtain ⟨cs, rfl, hcs4, hcs1⟩ : ∃ cs : List Value, r = .agg cs.toArray ∧ cs.length = 4 ∧ ∀ u ∈ cs, u.oneCell' = true := by
          cases hc : exprP ts fin vs (f - 1) i with
          | error e => rw [hc] at hE; obtain ⟨⟨cs, h1, h2, h3⟩, _⟩ := hE; exact ⟨cs, h1, h2, h3⟩
          | ok p => obtain ⟨t, j'⟩ := p; rw [hc] at hE; obtain ⟨⟨cs, F, h1, h2, _⟩, _⟩ := hE; exact ⟨cs, h1, h2.length, h2.one⟩
        (repeat (first | refine pl_pure hT rfl rfl rfl ?_ | refine pl_not rfl rfl ?_ | refine pl_nil ?_ | refine rn_inBlock ?_ | refine rn_skip ?_ | refine rn_true rfl ?_ | refine rn_false rfl ?_ | refine rn_exit rfl ?_))
        refine pl_op rfl rfl (opTo_storeN cs rfl rfl rfl rfl (by rw [hcs4]; exact size_expr) hz8 (by rw [scells_len hfm, hcs4]; decide) hcs1 ?_)
        intro w9 hs9 hk9 hz9
        have hzz := sp_f (op := ((kk : Nat) : Int)) (v := ((v : Nat) : Int)) hfm hcs4
        have hz9' : Blk w9 b5 (scells (kk : Nat) (v : Nat) ce cs (.slice none 0 0) (.slice none 0 0)) 43 := by
          rw [← hzz]
          exact hz9
        have hfm9 : Fm ce cs (.slice none 0 0) (.slice none 0 0) := ⟨hfm.le, hcs4, hfm.oe, hcs1, hfm.bv, hfm.ov⟩
        (repeat (first | refine pl_pure hT rfl rfl rfl ?_ | refine pl_not rfl rfl ?_ | refine pl_nil ?_ | refine rn_inBlock ?_ | refine rn_skip ?_ | refine rn_true rfl ?_ | refine rn_false rfl ?_ | refine rn_exit rfl ?_))
        cases hc : exprP ts fin vs (f - 1) i with
        | error e0 =>
          rw [hc] at hE
          refine fin1 _ _ ⟨.error e0, v, e, zeroT, [], [], ce, cs, .slice none 0 0, .slice none 0 0, ?_, fun h => (by cases h), fun h => (by cases h), ⟨rfl, rfl, rfl, rfl⟩, hfm9, hE.2.keep hk9 (by simp; omega), hz9', hk9.blk hy8 (by simp; omega), hcx' hcx8 hz8 hk9, (hk0.tr hk8).trB hk9 (by omega), by have := hk8.size; have := hk9.size; omega, rfl, rfl, rfl, rfl, trivial⟩
          rw [hTT]
          show st3 ts fin ex one kk v e i = _
          unfold st3
          rw [← hq, if_pos rfl, hex, hc]
          rfl
        | ok p =>
          obtain ⟨t, j'⟩ := p
          rw [hc] at hE
          obtain ⟨⟨cs', F', he1, he2, he3⟩, hre⟩ := hE
          have ecs : cs' = cs := by
            injection he1 with he1
            have := congrArg Array.toList he1
            simpa using this.symm
          subst ecs
          refine fin1 _ _ ⟨.ok j', v, e, t, [], [], ce, cs', .slice none 0 0, .slice none 0 0, ?_, fun _ => hfp, fun _ => ?_, ⟨rfl, rfl, rfl, rfl⟩, hfm9, hre.keep hk9 (by simp; omega), hz9', hk9.blk hy8 (by simp; omega), hcx' hcx8 hz8 hk9, (hk0.tr hk8).trB hk9 (by omega), by have := hk8.size; have := hk9.size; omega, rfl, rfl, rfl, rfl, trivial⟩
          · rw [hTT]
            show st3 ts fin ex one kk v e i = _
            unfold st3
            rw [← hq, if_pos rfl, hex, hc]
            rfl
          · obtain ⟨F, hF, h1, h2, h3, h4⟩ := hgd8
            refine Gd.keep (w := w8) ⟨fun c => F c ∨ F' c, ?_, h1.mono fun c h => .inl h, he2.mono fun c h => .inr h, h3.mono fun c h => .inl h, h4.mono fun c h => .inl h⟩ hk9 (by simp; omega)
            rintro c (h | h)
            · exact hF c h
            · have := he3 c h
              exact ⟨by omega, this.2⟩
  rintro σ' w5 ⟨X, v, e, g, lb, lo, ce, cf, bv, ov, hTT, hokf, hgd, ⟨rfl, rfl, rfl, rfl⟩, hfm, hr, hz, hy, hcx, hk0, hBs, hsub⟩
  refine rn_sub hsub ?_
  refine rn_seq ?_
  refine rn_with (fun σ' w' => ∃ (X : Except Flt Nat) (v : Nat) (e g : ET) (lb lo : List ST) (ce cf : List Value) (bv ov : Value), TOT = bnd X (fun i => st5 ts fin one kk v e g lb i) ∧ (okX X = true → 1 ≤ f) ∧ (okX X = true → Gd w' B e g lb lo ce cf bv ov) ∧ (lo = [] ∧ ov = .slice none 0 0) ∧ Fm ce cf bv ov ∧ Rs w' b lv vv fin X ∧
    Blk w' b5 (scells (kk : Nat) (v : Nat) ce cf bv ov) 43 ∧ Blk w' b4 zst 43 ∧ Cx w' lv vv ts vs ∧ Keep [b] w w' ∧ B ≤ w'.heap.size ∧ Sub [(0, .pointer (some ⟨b, 0, none⟩)), (1, .int .i64 (deep : Nat)), (4, .pointer (some ⟨b4, 0, none⟩)), (5, .pointer (some ⟨b5, 0, none⟩))] σ') ?_ ?_
  rotate_left
  · intro fin1
    clear hsub
    refine rn_seq ?_
    refine rn_plain ?_
    (repeat (first | refine pl_pure hT rfl rfl rfl ?_ | refine pl_not rfl rfl ?_ | refine pl_nil ?_ | refine rn_inBlock ?_ | refine rn_skip ?_ | refine rn_true rfl ?_ | refine rn_false rfl ?_ | refine rn_exit rfl ?_))
    refine pl_val _ rfl rfl (val_load1 hT rfl rfl rfl (Blk.cell hz (by rfl))) ?_
    refine pl_op rfl rfl (opTo_call (fst := []) (cap := []) rfl rfl rfl rfl (by decide +kernel) ((needed_ret ((kk : Nat) : Int) 98 _).mono ?_))
    rintro r w6 ⟨rfl, rfl⟩
    rw [nB]
    obtain ⟨q, hq⟩ : ∃ q, q = needB ((kk : Nat) : Int) := ⟨_, rfl⟩
    rw [← hq]
    cases q with
    | false =>
      (repeat (first | refine pl_pure hT rfl rfl rfl ?_ | refine pl_not rfl rfl ?_ | refine pl_nil ?_ | refine rn_inBlock ?_ | refine rn_skip ?_ | refine rn_true rfl ?_ | refine rn_false rfl ?_ | refine rn_exit rfl ?_))
      refine fin1 _ _ ⟨X, v, e, g, [], [], ce, cf, .slice none 0 0, .slice none 0 0, ?_, hokf, hgd, ⟨rfl, rfl⟩, hfm, hr, hz, hy, hcx, hk0, hBs, rfl, rfl, rfl, rfl, trivial⟩
      rw [hTT]
      cases X with
      | error e => rfl
      | ok i =>
        show st4 ts fin one kk v e g i = _
        unfold st4
        rw [← hq]
        rfl
    | true =>
      have hkk0 : kk ≠ 0 := by
        intro h0
        rw [h0] at hq
        cases hq
      have hf1' := (hkr hkk0).1
      (repeat (first | refine pl_pure hT rfl rfl rfl ?_ | refine pl_not rfl rfl ?_ | refine pl_nil ?_ | refine rn_inBlock ?_ | refine rn_skip ?_ | refine rn_true rfl ?_ | refine rn_false rfl ?_ | refine rn_exit rfl ?_))
      refine rn_plain ?_
      (repeat (first | refine pl_pure hT rfl rfl rfl ?_ | refine pl_not rfl rfl ?_ | refine pl_nil ?_ | refine rn_inBlock ?_ | refine rn_skip ?_ | refine rn_true rfl ?_ | refine rn_false rfl ?_ | refine rn_exit rfl ?_))
      refine pl_num (((deep + 1 : Nat) : Int)) rfl rfl rfl rfl rfl (by simp only [ariP]; omega) ?_
      refine pl_op rfl rfl (opTo_call (fst := []) (cap := []) rfl rfl rfl rfl (by decide +kernel) ((rList_ret (one := stmtP ts fin vs (f - 1)) (deep := deep + 1) (stmtP_ok vs (f - 1)) (fun i w hc hr => ih (f - 1) (by omega) (deep + 1) i (by omega) hc hr) hcx hr).mono ?_))
      rintro r w8 ⟨hL, hk8⟩
      rw [← hone] at hL
      have hcx8 := hcx.keepR hr hk8
      have hz8 := hk8.blk hz (by simp; omega)
      have hy8 := hk8.blk hy (by simp; omega)
      obtain ⟨a, n, c, rfl⟩ : ∃ a n c, r = .slice a n c := by
        cases hc : bnd X (listP ts fin one) with
        | error e => rw [hc] at hL; exact hL.1
        | ok p =>
          obtain ⟨l, j'⟩ := p
          rw [hc] at hL
          obtain ⟨⟨F, h1, _⟩, _⟩ := hL
          obtain ⟨a, cap, hv⟩ := h1.form
          exact ⟨_, _, _, hv⟩
      (repeat (first | refine pl_pure hT rfl rfl rfl ?_ | refine pl_not rfl rfl ?_ | refine pl_nil ?_ | refine rn_inBlock ?_ | refine rn_skip ?_ | refine rn_true rfl ?_ | refine rn_false rfl ?_ | refine rn_exit rfl ?_))
      refine pl_op rfl rfl (opTo_storeN [.slice a n c] rfl rfl rfl rfl size_sts hz8 (by rw [scells_len hfm]; simp) (by simp; rfl) ?_)
      intro w9 hs9 hk9 hz9
      have hzz := sp_b (op := ((kk : Nat) : Int)) (v := ((v : Nat) : Int)) hfm (.slice a n c)
      have hz9' : Blk w9 b5 (scells (kk : Nat) (v : Nat) ce cf (.slice a n c) (.slice none 0 0)) 43 := by
        rw [← hzz]
        exact hz9
      (repeat (first | refine pl_pure hT rfl rfl rfl ?_ | refine pl_not rfl rfl ?_ | refine pl_nil ?_ | refine rn_inBlock ?_ | refine rn_skip ?_ | refine rn_true rfl ?_ | refine rn_false rfl ?_ | refine rn_exit rfl ?_))
      cases hc : bnd X (listP ts fin one) with
      | error e0 =>
        rw [hc] at hL
        refine fin1 _ _ ⟨.error e0, v, e, g, [], [], ce, cf, .slice a n c, .slice none 0 0, ?_, fun h => (by cases h), fun h => (by cases h), ⟨rfl, rfl⟩, ⟨hfm.le, hfm.lf, hfm.oe, hfm.of, rfl, hfm.ov⟩, hL.2.keep hk9 (by simp; omega), hz9', hk9.blk hy8 (by simp; omega), hcx' hcx8 hz8 hk9, (hk0.tr hk8).trB hk9 (by omega), by have := hk8.size; have := hk9.size; omega, rfl, rfl, rfl, rfl, trivial⟩
        rw [hTT]
        cases X with
        | error e => cases hc; rfl
        | ok i =>
          have hc' : listP ts fin one i = .error e0 := hc
          show st4 ts fin one kk v e g i = _
          unfold st4
          rw [← hq, if_pos rfl, hc']
          rfl
      | ok p =>
        obtain ⟨t, j'⟩ := p
        rw [hc] at hL
        obtain ⟨⟨F', he2, he3⟩, hre⟩ := hL
        cases X with
        | error e => cases hc
        | ok i =>
          have hc' : listP ts fin one i = .ok (t, j') := hc
          have hfp := hokf rfl
          refine fin1 _ _ ⟨.ok j', v, e, g, t, [], ce, cf, .slice a n c, .slice none 0 0, ?_, fun _ => hfp, fun _ => ?_, ⟨rfl, rfl⟩, ⟨hfm.le, hfm.lf, hfm.oe, hfm.of, rfl, hfm.ov⟩, hre.keep hk9 (by simp; omega), hz9', hk9.blk hy8 (by simp; omega), hcx' hcx8 hz8 hk9, (hk0.tr hk8).trB hk9 (by omega), by have := hk8.size; have := hk9.size; omega, rfl, rfl, rfl, rfl, trivial⟩
          · rw [hTT]
            show st4 ts fin one kk v e g i = _
            unfold st4
            rw [← hq, if_pos rfl, hc']
            rfl
          · obtain ⟨F, hF, h1, h2, h3, h4⟩ := (hgd rfl).keep hk8 (by simp; omega)
            refine Gd.keep (w := w8) ⟨fun c => F c ∨ F' c, ?_, h1.mono fun c h => .inl h, h2.mono fun c h => .inl h, he2.mono fun c h => .inr h, h4.mono fun c h => .inl h⟩ hk9 (by simp; omega)
            rintro c (h | h)
            · exact hF c h
            · have := he3 c h
              exact ⟨by omega, this.2⟩
  rintro σ' w5 ⟨X, v, e, g, lb, lo, ce, cf, bv, ov, hTT, hokf, hgd, ⟨rfl, rfl⟩, hfm, hr, hz, hy, hcx, hk0, hBs, hsub⟩
  refine rn_sub hsub ?_
  refine rn_seq ?_
  refine rn_with (fun σ' w' => ∃ (X : Except Flt Nat) (v : Nat) (e g : ET) (lb lo : List ST) (ce cf : List Value) (bv ov : Value), TOT = bnd X (fun i => st6 ts fin kk v e g lb lo i) ∧ (okX X = true → 1 ≤ f) ∧ (okX X = true → Gd w' B e g lb lo ce cf bv ov) ∧ True ∧ Fm ce cf bv ov ∧ Rs w' b lv vv fin X ∧
    Blk w' b5 (scells (kk : Nat) (v : Nat) ce cf bv ov) 43 ∧ Blk w' b4 zst 43 ∧ Cx w' lv vv ts vs ∧ Keep [b] w w' ∧ B ≤ w'.heap.size ∧ Sub [(0, .pointer (some ⟨b, 0, none⟩)), (1, .int .i64 (deep : Nat)), (4, .pointer (some ⟨b4, 0, none⟩)), (5, .pointer (some ⟨b5, 0, none⟩))] σ') ?_ ?_
  rotate_left
  · intro fin1
    clear hsub
    refine rn_seq ?_
    refine rn_plain ?_
    (repeat (first | refine pl_pure hT rfl rfl rfl ?_ | refine pl_not rfl rfl ?_ | refine pl_nil ?_ | refine rn_inBlock ?_ | refine rn_skip ?_ | refine rn_true rfl ?_ | refine rn_false rfl ?_ | refine rn_exit rfl ?_))
    refine pl_val _ rfl rfl (val_load1 hT rfl rfl rfl (Blk.cell hz (by rfl))) ?_
    refine pl_op rfl rfl (opTo_call (fst := []) (cap := []) rfl rfl rfl rfl (by decide +kernel) ((needed_ret ((kk : Nat) : Int) 111 _).mono ?_))
    rintro r w6 ⟨rfl, rfl⟩
    rw [nO]
    obtain ⟨q, hq⟩ : ∃ q, q = needO ((kk : Nat) : Int) := ⟨_, rfl⟩
    rw [← hq]
    cases q with
    | false =>
      (repeat (first | refine pl_pure hT rfl rfl rfl ?_ | refine pl_not rfl rfl ?_ | refine pl_nil ?_ | refine rn_inBlock ?_ | refine rn_skip ?_ | refine rn_true rfl ?_ | refine rn_false rfl ?_ | refine rn_exit rfl ?_))
      refine fin1 _ _ ⟨X, v, e, g, lb, [], ce, cf, bv, .slice none 0 0, ?_, hokf, hgd, trivial, hfm, hr, hz, hy, hcx, hk0, hBs, rfl, rfl, rfl, rfl, trivial⟩
      rw [hTT]
      cases X with
      | error e => rfl
      | ok i =>
        show st5 ts fin one kk v e g lb i = _
        unfold st5
        rw [← hq]
        rfl
    | true =>
      have hkk0 : kk ≠ 0 := by
        intro h0
        rw [h0] at hq
        cases hq
      have hf1' := (hkr hkk0).1
      (repeat (first | refine pl_pure hT rfl rfl rfl ?_ | refine pl_not rfl rfl ?_ | refine pl_nil ?_ | refine rn_inBlock ?_ | refine rn_skip ?_ | refine rn_true rfl ?_ | refine rn_false rfl ?_ | refine rn_exit rfl ?_))
      refine rn_plain ?_
      (repeat (first | refine pl_pure hT rfl rfl rfl ?_ | refine pl_not rfl rfl ?_ | refine pl_nil ?_ | refine rn_inBlock ?_ | refine rn_skip ?_ | refine rn_true rfl ?_ | refine rn_false rfl ?_ | refine rn_exit rfl ?_))
      refine pl_num (((deep + 1 : Nat) : Int)) rfl rfl rfl rfl rfl (by simp only [ariP]; omega) ?_
      refine pl_op rfl rfl (opTo_call (fst := []) (cap := []) rfl rfl rfl rfl (by decide +kernel) ((rList_ret (one := stmtP ts fin vs (f - 1)) (deep := deep + 1) (stmtP_ok vs (f - 1)) (fun i w hc hr => ih (f - 1) (by omega) (deep + 1) i (by omega) hc hr) hcx hr).mono ?_))
      rintro r w8 ⟨hL, hk8⟩
      rw [← hone] at hL
      have hcx8 := hcx.keepR hr hk8
      have hz8 := hk8.blk hz (by simp; omega)
      have hy8 := hk8.blk hy (by simp; omega)
      obtain ⟨a, n, c, rfl⟩ : ∃ a n c, r = .slice a n c := by
        cases hc : bnd X (listP ts fin one) with
        | error e => rw [hc] at hL; exact hL.1
        | ok p =>
          obtain ⟨l, j'⟩ := p
          rw [hc] at hL
          obtain ⟨⟨F, h1, _⟩, _⟩ := hL
          obtain ⟨a, cap, hv⟩ := h1.form
          exact ⟨_, _, _, hv⟩
      (repeat (first | refine pl_pure hT rfl rfl rfl ?_ | refine pl_not rfl rfl ?_ | refine pl_nil ?_ | refine rn_inBlock ?_ | refine rn_skip ?_ | refine rn_true rfl ?_ | refine rn_false rfl ?_ | refine rn_exit rfl ?_))
      refine pl_op rfl rfl (opTo_storeN [.slice a n c] rfl rfl rfl rfl size_sts hz8 (by rw [scells_len hfm]; simp) (by simp; rfl) ?_)
      intro w9 hs9 hk9 hz9
      have hzz := sp_o (op := ((kk : Nat) : Int)) (v := ((v : Nat) : Int)) hfm (.slice a n c)
      have hz9' : Blk w9 b5 (scells (kk : Nat) (v : Nat) ce cf bv (.slice a n c)) 43 := by
        rw [← hzz]
        exact hz9
      (repeat (first | refine pl_pure hT rfl rfl rfl ?_ | refine pl_not rfl rfl ?_ | refine pl_nil ?_ | refine rn_inBlock ?_ | refine rn_skip ?_ | refine rn_true rfl ?_ | refine rn_false rfl ?_ | refine rn_exit rfl ?_))
      cases hc : bnd X (listP ts fin one) with
      | error e0 =>
        rw [hc] at hL
        refine fin1 _ _ ⟨.error e0, v, e, g, lb, [], ce, cf, bv, .slice a n c, ?_, fun h => (by cases h), fun h => (by cases h), trivial, ⟨hfm.le, hfm.lf, hfm.oe, hfm.of, hfm.bv, rfl⟩, hL.2.keep hk9 (by simp; omega), hz9', hk9.blk hy8 (by simp; omega), hcx' hcx8 hz8 hk9, (hk0.tr hk8).trB hk9 (by omega), by have := hk8.size; have := hk9.size; omega, rfl, rfl, rfl, rfl, trivial⟩
        rw [hTT]
        cases X with
        | error e => cases hc; rfl
        | ok i =>
          have hc' : listP ts fin one i = .error e0 := hc
          show st5 ts fin one kk v e g lb i = _
          unfold st5
          rw [← hq, if_pos rfl, hc']
          rfl
      | ok p =>
        obtain ⟨t, j'⟩ := p
        rw [hc] at hL
        obtain ⟨⟨F', he2, he3⟩, hre⟩ := hL
        cases X with
        | error e => cases hc
        | ok i =>
          have hc' : listP ts fin one i = .ok (t, j') := hc
          have hfp := hokf rfl
          refine fin1 _ _ ⟨.ok j', v, e, g, lb, t, ce, cf, bv, .slice a n c, ?_, fun _ => hfp, fun _ => ?_, trivial, ⟨hfm.le, hfm.lf, hfm.oe, hfm.of, hfm.bv, rfl⟩, hre.keep hk9 (by simp; omega), hz9', hk9.blk hy8 (by simp; omega), hcx' hcx8 hz8 hk9, (hk0.tr hk8).trB hk9 (by omega), by have := hk8.size; have := hk9.size; omega, rfl, rfl, rfl, rfl, trivial⟩
          · rw [hTT]
            show st5 ts fin one kk v e g lb i = _
            unfold st5
            rw [← hq, if_pos rfl, hc']
            rfl
          · obtain ⟨F, hF, h1, h2, h3, h4⟩ := (hgd rfl).keep hk8 (by simp; omega)
            refine Gd.keep (w := w8) ⟨fun c => F c ∨ F' c, ?_, h1.mono fun c h => .inl h, h2.mono fun c h => .inl h, h3.mono fun c h => .inl h, he2.mono fun c h => .inr h⟩ hk9 (by simp; omega)
            rintro c (h | h)
            · exact hF c h
            · have := he3 c h
              exact ⟨by omega, this.2⟩
  rintro σ' w5 ⟨X, v, e, g, lb, lo, ce, cf, bv, ov, hTT, hokf, hgd, _, hfm, hr, hz, hy, hcx, hk0, hBs, hsub⟩
  -- the end
  refine rn_sub hsub ?_
  (repeat (first | refine pl_pure hT rfl rfl rfl ?_ | refine pl_nil ?_ | refine rn_seq ?_ | refine rn_plain ?_ | refine rn_block ?_ | refine rn_inBlock ?_ | refine rn_skip ?_ | refine rn_true rfl ?_ | refine rn_false rfl ?_ | refine rn_exit rfl ?_ | refine pl_not rfl rfl ?_))
  refine pl_op rfl rfl (opTo_call (fst := []) (cap := []) rfl rfl rfl rfl (by decide +kernel) ((rMust_ret hcx hr [41]).mono ?_))
  rintro r w8 ⟨hr8, hk8⟩
  have hz8 := hk8.blk hz (by simp; omega)
  have hy8 := hk8.blk hy (by simp; omega)
  have hfm12 := scells_len (op := ((kk : Nat) : Int)) (v := ((v : Nat) : Int)) hfm
  (repeat (first | refine pl_pure hT rfl rfl rfl ?_ | refine pl_nil ?_ | refine rn_seq ?_ | refine rn_plain ?_ | refine rn_block ?_ | refine rn_inBlock ?_ | refine rn_skip ?_ | refine rn_true rfl ?_ | refine rn_false rfl ?_ | refine rn_exit rfl ?_ | refine pl_not rfl rfl ?_))
  refine pl_val _ rfl rfl (val_load (scells (kk : Nat) (v : Nat) ce cf bv ov) hT rfl rfl (by rw [hfm12]; rfl) (hz8.range (by simp))) ?_
  refine pl_op rfl rfl (opTo_storeN (scells (kk : Nat) (v : Nat) ce cf bv ov) rfl rfl rfl rfl (by rw [hfm12]; exact size_st) hy8 (by rw [hfm12]; exact Nat.le_refl _) (scells_one hfm) ?_)
  intro w9 hs9 hk9 hy9
  rw [splice_whole (by rw [hfm12]; rfl)] at hy9
  (repeat (first | refine pl_pure hT rfl rfl rfl ?_ | refine pl_nil ?_ | refine rn_seq ?_ | refine rn_plain ?_ | refine rn_block ?_ | refine rn_inBlock ?_ | refine rn_skip ?_ | refine rn_true rfl ?_ | refine rn_false rfl ?_ | refine rn_exit rfl ?_ | refine pl_not rfl rfl ?_))
  have hr9 := hr8.keep hk9 (by simp; omega)
  have hk09 : Keep [b] w w9 := (hk0.tr hk8).trB hk9 (by omega)
  refine rn_ret Tryz.func24 (.inr (.inr (.inl ⟨_, _, _, rfl, rfl, blk_loadVar hT hy9 (by rw [hfm12]; rfl)⟩))) ⟨?_, hk09⟩
  rw [hTT]
  cases X with
  | error e => exact ⟨⟨_, rfl, hfm12, scells_one hfm⟩, hr9⟩
  | ok i6 =>
    have hr9' : Rs w9 b lv vv fin (mustP ts fin [41] i6) := hr9
    show StmR w w9 b lv vv fin _ (st6 ts fin kk v e g lb lo i6)
    unfold st6
    cases hc : mustP ts fin [41] i6 with
    | error e => rw [hc] at hr9'; exact ⟨⟨_, rfl, hfm12, scells_one hfm⟩, hr9'⟩
    | ok i7 =>
      rw [hc] at hr9'
      obtain ⟨F, hF, h1, h2, h3, h4⟩ := ((hgd rfl).keep hk8 (by simp; omega)).keep hk9 (by simp; omega)
      exact ⟨⟨_, F, rfl, StmtV.of h1 h2 h3 h4, fun c hc' => by have := hF c hc'; omega⟩, hr9'⟩
end E
end Go.Proofs.YthbkcadiejfgaacGreatDoor
