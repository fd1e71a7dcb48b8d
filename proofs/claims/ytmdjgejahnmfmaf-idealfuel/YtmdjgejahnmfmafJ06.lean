/- Several texts in one: LiftI, IdF, StrB, ThrO, IrA, IrB, IrC, IrD. -/
import Derived.Test.YtmdjgejahnmfmafJ03
import Derived.Test.YtmdjgejahnmfmafJ05
import Derived.Test.YtmdjgejahnmfmafJ02
import Derived.Test.YtmdjgejahnmfmafJ04
/- Lists of numbers, as an argument of a law is read. -/
namespace Go.Proofs.Ytmdjgejahnmfmaf
set_option maxRecDepth 20000
set_option maxHeartbeats 4000000
namespace E
open Go.Proofs

/-- A number of 64 bits. -/
abbrev Lg64 : Type := Int
theorem int_lt {n : Int} (h : (Lit.int .i64 n).wf = true) : n < 9223372036854775808 := by
  simp only [Lit.wf, Bool.and_eq_true, decide_eq_true_eq] at h
  have h2 : n ≤ 9223372036854775807 := h.2
  omega
def ArgI (_ : Nat) (w : World) (v : Value) (l : List Int) : Prop := InpV w v l
theorem flat_lgs (l : List Int) : l.flatMap (fun n => [Value.int .i64 n]) = lgs l := by
  induction l with
  | nil => rfl
  | cons x r ih => rw [List.flatMap_cons, ih]; rfl
theorem argI_of {H : Type} {enc : TypeId × Value → H} {w : World} {v : Value} {d : DataW H} {ps : List MemPlace} (h : DataW.Trod enc Try.prog w 0 (fun _ => true) true 26 v d ps) (hv : v.cells = #[v]) : ∃ l, ArgI w.heap.size w v l := by
  obtain ⟨fuel, hf⟩ := h
  obtain ⟨a, cap, L, hcs, hr, _⟩ := open_list (fun n : Int => [Value.int .i64 n]) (fun _ => True) 1 (by decide) Try.underlying26 (by decide +kernel) (fun s _ => rfl) (fun n cs x h => by
    obtain ⟨z, hz, _⟩ := trod_int1 Try.underlying2 h
    exact ⟨z, hz, trivial⟩) hf
  rw [hv] at hcs
  simp at hcs
  refine ⟨L, a, cap, hcs, fun h0 => ?_⟩
  obtain ⟨b, q, h1, h2, h3⟩ := hr (by intro e; rw [e] at h0; simp at h0)
  rw [flat_lgs] at h3
  exact ⟨b, q, h1, h2, h3⟩
/-- The same, and it has as much room as it has numbers; so many of them are no more than memory. -/
def ArgC (_ : Nat) (w : World) (v : Value) (l : List Int) : Prop := InpV w v l ∧ ∀ a n cap, v = .slice a n cap → n ≤ cap
theorem argC_of {H : Type} {enc : TypeId × Value → H} {w : World} {v : Value} {d : DataW H} {ps : List MemPlace} (h : DataW.Trod enc Try.prog w 0 (fun _ => true) true 26 v d ps) (hv : v.cells = #[v]) : ∃ l, ArgC w.heap.size w v l := by
  obtain ⟨l, hl⟩ := argI_of h hv
  refine ⟨l, hl, fun a n cap he => ?_⟩
  subst he
  obtain ⟨fuel, hf⟩ := h
  rcases Go.Deep.open_slice Try.underlying26 hf with ⟨hcs, _⟩ | ⟨a', len, cap', m, n', D, Pl, hcs, _, hl', _⟩
  · rw [hv] at hcs
    simp at hcs
    omega
  · rw [hv] at hcs
    simp at hcs
    omega
end E
end Go.Proofs.Ytmdjgejahnmfmaf

/- The walk of IdealFuel. -/
namespace Go.Proofs.Ytmdjgejahnmfmaf
set_option maxRecDepth 20000
set_option maxHeartbeats 4000000
namespace E
open Go.Proofs

theorem codes13 {m : Md} (h : m.state ≤ 14) (h2 : (if m.state = 0 then 13 else if m.state = 1 then 0 else m.state - 2) = 13) : m.state = 0 := by
  by_cases h0 : m.state = 0
  · exact h0
  · rw [if_neg h0] at h2
    split at h2 <;> omega
/-- More instructions change nothing. -/
theorem fuelI {vs : List VarT} {body : List ST} (h : progFault vs body = 0) (hsz : szSs body ≤ 1000) (inp : List Int) {f k : Nat} (hk : f ≤ k) :
    (resX (saysX vs body inp f)).2.2.2 ≤ f ∧ (resX (saysX vs body inp k)).2.2.2 ≤ k ∧ (resX (saysX vs body inp f)).2.2.2 ≤ (resX (saysX vs body inp k)).2.2.2 ∧ (resX (saysX vs body inp f)).2.1 <+: (resX (saysX vs body inp k)).2.1 ∧
      (((resX (saysX vs body inp f)).1 = 13 ∧ (resX (saysX vs body inp f)).2.2.2 = f) ∨ resX (saysX vs body inp k) = resX (saysX vs body inp f)) := by
  obtain ⟨n, m, out, h1, _, _, h4, h5, _, _, h8⟩ := says_at h hsz inp f
  obtain ⟨n2, m2, out2, g1, _, _, _, _, _, _, g8⟩ := says_at h hsz inp k
  have hM := more_P vs inp hk body (es0 (sumV vs).toNat)
  have e1 : (resX (saysX vs body inp f)).2.2.2 = n := by rw [h8]
  have e2 : (resX (saysX vs body inp k)).2.2.2 = n2 := by rw [g8]
  refine ⟨by omega, by omega, ?_⟩
  have hs : ∀ {X Y : Ex Es}, MoreF id X Y → (resX X).2.2.2 ≤ (resX Y).2.2.2 ∧ (resX X).2.1 <+: (resX Y).2.1 ∧ ((resX X).1 = 13 ∨ resX Y = resX X) := fun {X Y} hXY => by
    cases X with
    | ok a =>
      rw [show Y = .ok a from hXY]
      exact ⟨Nat.le_refl _, List.prefix_refl _, .inr rfl⟩
    | error e =>
      rcases hXY with ⟨h, hu⟩ | ⟨h, rfl⟩
      · have hst : UpE e.2 ⟨(resX Y).2.2.2, 0, (resX Y).2.1, []⟩ := by
          cases Y <;> exact hu
        exact ⟨hst.1, hst.2, .inl h⟩
      · exact ⟨Nat.le_refl _, List.prefix_refl _, .inr rfl⟩
  obtain ⟨a1, a2, a3⟩ := hs hM
  refine ⟨a1, a2, ?_⟩
  rcases a3 with a3 | a3
  · refine .inl ⟨a3, ?_⟩
    have a3 : (resX (saysX vs body inp f)).1 = 13 := a3
    rw [h8] at a3
    have := codes13 h5 a3
    omega
  · exact .inr a3
theorem wrapU (a : Int) : ∃ u : Nat, IntKind.u64.wrap a = (u : Nat) := by
  refine ⟨(a % 18446744073709551616).toNat, ?_⟩
  have h1 : IntKind.u64.wrap a = a % 18446744073709551616 := rfl
  rw [h1]
  omega
theorem idealFuel_ret (hI : IdC) {w : World} {x iv : Value} {vs : List VarT} {body : List ST} {inp : List Int} (h : ProgV (fun b => b < w.heap.size) w x vs body) (hi : LsC w iv inp) (fuel more : Int) :
    Ret Try.prog 3 [x, iv, .int .i64 fuel, .int .i64 more] w fun r w' => r = .bool true ∧ Keep [] w w' := by
  have hF : In (fun b => b < w.heap.size) w := fun c hc => hc
  have hh := h
  obtain ⟨vv, bv, rfl, hv, hb⟩ := h
  obtain ⟨av, capv, rfl⟩ := hv.form
  obtain ⟨ab, capb, rfl⟩ := hb.form
  have hic := hi
  have hi0 : LsV w iv inp := hi.1
  obtain ⟨⟨ia, icap, rfl, _⟩, _⟩ := hi
  refine ret_of 104 Try.func3 rfl rfl (by simp) ?_
  refine au ?_
  refine pl_op rfl rfl (opTo_boxN [.slice av vs.length capv, .slice ab body.length capb] rfl rfl rfl ?_)
  intro w1 p hp0 hs1 hk1 hp1
  refine au ?_
  refine pl_op rfl rfl (opTo_call (fst := []) (cap := []) rfl rfl rfl rfl (by decide +kernel) ((idealBegun_ret hI w1).mono ?_))
  rintro r w2 ⟨rfl, hk2⟩
  have hk02 := hk1.tr hk2
  have hp2 := hk2.blk hp1 (by simp)
  refine au ?_
  refine pl_val _ rfl rfl (val_load [.slice av vs.length capv, .slice ab body.length capb] hT rfl rfl rfl (hp2.range (by rfl))) ?_
  refine pl_op rfl rfl (opTo_call (fst := []) (cap := []) rfl rfl rfl rfl (by decide +kernel) ((great_ret (hh.keep hk02 hF.stays) (hF.keep hk02)).mono ?_))
  rintro r w3 ⟨⟨g, rfl, hg⟩, hk3⟩
  have hk03 := hk02.tr hk3
  have hp3 := hk3.blk hp2 (by simp)
  cases g with
  | true =>
    refine au ?_
    exact rn_ret Try.func3 (.inl ⟨_, rfl, rfl⟩) ⟨rfl, hk03⟩
  | false =>
    obtain ⟨h30, hnm, hsz⟩ := hg rfl
    have hnm' : ∀ y ∈ vs, y.1.size ≤ 100000 := fun y hy => by have := hnm y hy; omega
    refine au ?_
    by_cases hil : inp.length > 40
    · refine ye ?_
      refine au ?_
      exact rn_ret Try.func3 (.inl ⟨_, rfl, rfl⟩) ⟨rfl, hk03⟩
    refine nay ?_
    refine au ?_
    by_cases hf0 : fuel < 0
    · refine ye ?_
      refine au ?_
      exact rn_ret Try.func3 (.inl ⟨_, rfl, rfl⟩) ⟨rfl, hk03⟩
    refine nay ?_
    refine au ?_
    by_cases hf3 : fuel > 3000
    · refine ye ?_
      refine au ?_
      exact rn_ret Try.func3 (.inl ⟨_, rfl, rfl⟩) ⟨rfl, hk03⟩
    refine nay ?_
    refine au ?_
    obtain ⟨f, rfl⟩ : ∃ f : Nat, fuel = (f : Nat) := ⟨fuel.toNat, by omega⟩
    obtain ⟨u, hu⟩ := wrapU more
    refine pl_val (.int .u64 (u : Nat)) rfl rfl (val_conv .i64 .u64 more _ rfl rfl (by decide +kernel) hu w3) ?_
    refine pl_val (.int .u64 ((u % 1000 : Nat) : Int)) rfl rfl (val_int .u64 _ 1000 _ rfl rfl rfl (by simp only [intOp]; rw [if_neg (by decide)]; rfl) w3) ?_
    refine pl_val (.int .i64 ((u % 1000 : Nat) : Int)) rfl rfl (val_conv .u64 .i64 _ _ rfl rfl (by decide +kernel) (wrap_i64 (by omega) (by omega)) w3) ?_
    refine pl_num (((f + u % 1000 : Nat) : Int)) rfl rfl rfl rfl rfl (by simp only [ariP]; omega) ?_
    obtain ⟨k, hk⟩ : ∃ k, k = min (f + u % 1000) 3000 := ⟨_, rfl⟩
    refine pl_val (.int .i64 (k : Nat)) rfl rfl (val_min _ rfl rfl rfl (by rw [hk]; omega) w3) ?_
    have hfk : f ≤ k ∧ k ≤ 3000 := by omega
    clear hk hu
    refine au ?_
    obtain ⟨T, hTe⟩ : ∃ T, T = runI vs body inp ((f : Nat) : Int) := ⟨_, rfl⟩
    obtain ⟨U, hUe⟩ : ∃ U, U = runI vs body inp ((k : Nat) : Int) := ⟨_, rfl⟩
    refine pl_val _ rfl rfl (val_load [.slice av vs.length capv, .slice ab body.length capb] hT rfl rfl rfl (hp3.range (by rfl))) ?_
    refine au ?_
    refine pl_op rfl rfl (opTo_call (fst := []) (cap := []) rfl rfl rfl rfl (by decide +kernel) ((hI.run _ (hh.keep hk03 hF.stays) (hF.keep hk03) (hic.keep0 hk03) (by omega) (by omega) (by omega)).mono ?_))
    rintro r w4 ⟨⟨ov4, cv4, rfl, ⟨hov4, hoc4⟩, hcv4, _⟩, hk4⟩
    rw [← hTe] at hov4 hcv4 ⊢
    have hov4' := hov4
    have hcv4' := hcv4
    obtain ⟨oa4, oc4, rfl, _⟩ := hov4'
    obtain ⟨ca4, cc4, rfl, _⟩ := hcv4'
    refine au ?_
    refine pl_op rfl rfl (opTo_allocN _ rfl zero_re ?_)
    intro w5 x5 hx5 hs5 hk5 hb5
    refine pl_op rfl rfl (opTo_storeN (resC T.code (.slice oa4 T.out.length oc4) (.slice ca4 T.cells.length cc4)) rfl rfl rfl rfl size_re hb5 (by simp [resC]) (resC_one _ _ _ _ _ _ _) ?_)
    intro w6 hs6 hk6 hb6
    rw [splice_whole (by rfl)] at hb6
    have hk46 : Keep [] w4 w6 := hk5.trB hk6 (by omega)
    have hk06 := (hk03.tr hk4).tr hk46
    have hp6 := (hk4.tr hk46).blk hp3 (by simp)
    refine au ?_
    refine pl_val _ rfl rfl (val_load [.slice av vs.length capv, .slice ab body.length capb] hT rfl rfl rfl (hp6.range (by rfl))) ?_
    refine au ?_
    refine pl_op rfl rfl (opTo_call (fst := []) (cap := []) rfl rfl rfl rfl (by decide +kernel) ((hI.run _ (hh.keep hk06 hF.stays) (hF.keep hk06) (hic.keep0 hk06) (by omega) (by omega) (by omega)).mono ?_))
    rintro r w7 ⟨⟨ov7, cv7, rfl, ⟨hov7, hoc7⟩, hcv7, _⟩, hk7⟩
    rw [← hUe] at hov7 hcv7 ⊢
    have hov7' := hov7
    have hcv7' := hcv7
    obtain ⟨oa7, oc7, rfl, _⟩ := hov7'
    obtain ⟨ca7, cc7, rfl, _⟩ := hcv7'
    refine au ?_
    refine pl_op rfl rfl (opTo_allocN _ rfl zero_re ?_)
    intro w8 x8 hx8 hs8 hk8 hb8
    refine pl_op rfl rfl (opTo_storeN (resC U.code (.slice oa7 U.out.length oc7) (.slice ca7 U.cells.length cc7)) rfl rfl rfl rfl size_re hb8 (by simp [resC]) (resC_one _ _ _ _ _ _ _) ?_)
    intro w9 hs9 hk9 hb9
    rw [splice_whole (by rfl)] at hb9
    have hk79 : Keep [] w7 w9 := hk8.trB hk9 (by omega)
    have hk69 := hk7.tr hk79
    have hk09 := hk06.tr hk69
    have hb69 := hk69.blk hb6 (by simp)
    have hov49 := (hov4.keep0 hk46).keep0 hk69
    have hcv49 := (hcv4.keep0 hk46).keep0 hk69
    have hov79 := hov7.keep0 hk79
    have hcv79 := hcv7.keep0 hk79
    refine au ?_
    by_cases hpf : ¬ progFault vs body = 0
    · have t5 : T.fault = progFault vs body := by rw [hTe, runI_not hpf]
      have u5 : U.fault = progFault vs body := by rw [hUe, runI_not hpf]
      refine ye ?_
      refine au ?_
      refine ye ?_
      refine au ?_
      exact rn_ret Try.func3 (.inl ⟨_, rfl, rfl⟩) ⟨rfl, hk09⟩
    replace hpf : progFault vs body = 0 := by omega
    have hT1 := runI_in (inp := inp) (fuel := ((f : Nat) : Int)) hpf (by omega) (by omega) (by omega)
    have hU1 := runI_in (inp := inp) (fuel := ((k : Nat) : Int)) hpf (by omega) (by omega) (by omega)
    rw [← hTe, Int.toNat_natCast] at hT1
    rw [← hUe, Int.toNat_natCast] at hU1
    obtain ⟨a1, a2, a3, a4, a5⟩ := fuelI hpf (by omega) inp hfk.1
    have t5 : T.fault = 0 := by rw [hT1]; rfl
    have u5 : U.fault = 0 := by rw [hU1]; rfl
    have tn : T.used = (((resX (saysX vs body inp f)).2.2.2 : Nat) : Int) := by rw [hT1]; rfl
    have un : U.used = (((resX (saysX vs body inp k)).2.2.2 : Nat) : Int) := by rw [hU1]; rfl
    have tc : T.code = (((resX (saysX vs body inp f)).1 : Nat) : Int) := by rw [hT1]; rfl
    have hpre : T.out <+: U.out := by rw [hT1, hU1]; exact a4
    have hbt := runI_bnd (vs := vs) (body := body) (by omega) inp ((f : Nat) : Int)
    rw [← hTe] at hbt
    have hsame : (T.code = 13 ∧ T.used = (f : Nat)) ∨ U = T := by
      rcases a5 with a5 | a5
      · exact .inl ⟨by omega, by omega⟩
      · exact .inr (by rw [hT1, hU1, a5])
    refine nay ?_
    refine au ?_
    refine nay ?_
    refine au ?_
    refine nay ?_
    refine au ?_
    refine nay ?_
    refine au ?_
    refine nay ?_
    refine au ?_
    refine pl_val _ rfl rfl (val_load1 hT rfl rfl rfl (hb69.cell rfl)) ?_
    refine au ?_
    refine pl_val _ rfl rfl (val_load1 hT rfl rfl rfl (hb9.cell rfl)) ?_
    refine pl_op rfl rfl (opTo_call (fst := []) (cap := []) rfl rfl rfl rfl (by decide +kernel) ((begins_ret hov49 ⟨hov79, hoc7⟩ hpre (by omega)).mono ?_))
    rintro r w10 ⟨rfl, hk10⟩
    have hb6a := hk10.blk hb69 (by simp)
    have hb9a := hk10.blk hb9 (by simp)
    refine au ?_
    refine pl_val _ rfl rfl (val_load1 hT rfl rfl rfl (hb6a.cell rfl)) ?_
    rcases hsame with ⟨s1, s2⟩ | hs
    · refine ye ?_
      refine au ?_
      refine ye ?_
      refine au ?_
      exact rn_ret Try.func3 (.inl ⟨_, rfl, rfl⟩) ⟨rfl, hk09.tr hk10⟩
    · rw [hs] at hb9a hov79 hcv79 un ⊢
      by_cases hc : T.code = 13
      · refine ye ?_
        refine au ?_
        by_cases hn : T.used = (f : Nat)
        · refine ye ?_
          refine au ?_
          exact rn_ret Try.func3 (.inl ⟨_, rfl, rfl⟩) ⟨rfl, hk09.tr hk10⟩
        refine nay ?_
        refine au ?_
        refine pl_val _ rfl rfl (val_load (resC T.code (.slice oa4 T.out.length oc4) (.slice ca4 T.cells.length cc4)) hT rfl rfl rfl (hb6a.range (by rfl))) ?_
        refine pl_val _ rfl rfl (val_load (resC T.code (.slice oa7 T.out.length oc7) (.slice ca7 T.cells.length cc7)) hT rfl rfl rfl (hb9a.range (by rfl))) ?_
        refine pl_op rfl rfl (opTo_call (fst := []) (cap := []) rfl rfl rfl rfl (by decide +kernel) ((sameRes_ret T.code (hov49.keep0 hk10) (hcv49.keep0 hk10) (hov79.keep0 hk10) (hcv79.keep0 hk10) (by omega) (by omega)).mono ?_))
        rintro r w11 ⟨rfl, hk11⟩
        refine au ?_
        refine ye ?_
        refine au ?_
        exact rn_ret Try.func3 (.inl ⟨_, rfl, rfl⟩) ⟨rfl, (hk09.tr hk10).tr hk11⟩
      refine nay ?_
      refine au ?_
      refine pl_val _ rfl rfl (val_load (resC T.code (.slice oa4 T.out.length oc4) (.slice ca4 T.cells.length cc4)) hT rfl rfl rfl (hb6a.range (by rfl))) ?_
      refine pl_val _ rfl rfl (val_load (resC T.code (.slice oa7 T.out.length oc7) (.slice ca7 T.cells.length cc7)) hT rfl rfl rfl (hb9a.range (by rfl))) ?_
      refine pl_op rfl rfl (opTo_call (fst := []) (cap := []) rfl rfl rfl rfl (by decide +kernel) ((sameRes_ret T.code (hov49.keep0 hk10) (hcv49.keep0 hk10) (hov79.keep0 hk10) (hcv79.keep0 hk10) (by omega) (by omega)).mono ?_))
      rintro r w11 ⟨rfl, hk11⟩
      refine au ?_
      refine ye ?_
      refine au ?_
      exact rn_ret Try.func3 (.inl ⟨_, rfl, rfl⟩) ⟨rfl, (hk09.tr hk10).tr hk11⟩
end E
end Go.Proofs.Ytmdjgejahnmfmaf

/- Laws of single operations on strings, second part: s[l:h], s + t, an error held against nil, two faults (structs of two numbers) held against one another. -/
namespace Go.Proofs.Ytmdjgejahnmfmaf
set_option maxRecDepth 20000
set_option maxHeartbeats 4000000
namespace E

section
variable {P : Program} {n : Nat} {σ : Env} {o : Oper}

/-- s[l:h]. -/
theorem val_strCut {t : Nat} {x lo hi : Operand} {k1 k2 : IntKind} {i1 i2 : Int} (s : ByteArray) (l h : Nat) (ht : isStr P t = true) (ho : o.op = .slice t x (some lo) (some hi) none) (hx : ev σ x = some (.string s))
    (h1 : ev σ lo = some (.int k1 i1)) (h2 : ev σ hi = some (.int k2 i2)) (e1 : i1 = (l : Int)) (e2 : i2 = (h : Int)) (hl : l ≤ h) (hh : h ≤ s.size) (w : World) : Val P n σ o w (.string (s.extract l h)) := by
  intro ac ha
  subst e1; subst e2
  simp [execOp, ho, ha.eval hx, ha.eval h1, ha.eval h2, Instr.sliceAt, Instr.slice, Instr.sliceBounds, Instr.sliceBound, asIntOf, run_underlying (isStr_spec ht), hl, hh]
/-- s[l:]. -/
theorem val_strFrom {t : Nat} {x lo : Operand} {k1 : IntKind} {i1 : Int} (s : ByteArray) (l : Nat) (ht : isStr P t = true) (ho : o.op = .slice t x (some lo) none none) (hx : ev σ x = some (.string s))
    (h1 : ev σ lo = some (.int k1 i1)) (e1 : i1 = (l : Int)) (hl : l ≤ s.size) (w : World) : Val P n σ o w (.string (s.extract l s.size)) := by
  intro ac ha
  subst e1
  simp [execOp, ho, ha.eval hx, ha.eval h1, Instr.sliceAt, Instr.slice, Instr.sliceBounds, Instr.sliceBound, asIntOf, run_underlying (isStr_spec ht), hl]
/-- s[:h]. -/
theorem val_strTo {t : Nat} {x hi : Operand} {k2 : IntKind} {i2 : Int} (s : ByteArray) (h : Nat) (ht : isStr P t = true) (ho : o.op = .slice t x none (some hi) none) (hx : ev σ x = some (.string s))
    (h2 : ev σ hi = some (.int k2 i2)) (e2 : i2 = (h : Int)) (hh : h ≤ s.size) (w : World) : Val P n σ o w (.string (s.extract 0 h)) := by
  intro ac ha
  subst e2
  simp [execOp, ho, ha.eval hx, ha.eval h2, Instr.sliceAt, Instr.slice, Instr.sliceBounds, Instr.sliceBound, asIntOf, run_underlying (isStr_spec ht), hh]

/-- s + t. -/
theorem val_strAdd {t t' : Nat} {x y : Operand} (a b : ByteArray) (ho : o.op = .binOp .add t x y t') (hx : ev σ x = some (.string a)) (hy : ev σ y = some (.string b)) (hs : a.size + b.size ≤ 9223372036854775807) (w : World) : Val P n σ o w (.string (a ++ b)) := by
  intro ac ha
  simp only [execOp, ho, ha.eval hx, ha.eval hy, Sem.run_bind]
  simp [eqGuard, binOp, Op.stringOp]
  omega

/-- A string's bytes. -/
theorem toList_extract (s : ByteArray) (l h : Nat) : (s.extract l h).data.toList = (s.data.toList.drop l).take (h - l) := by
  rw [ByteArray.data_extract, Array.toList_extract, List.extract_eq_drop_take']
  rw [List.drop_take]
theorem toList_add (a b : ByteArray) : (a ++ b).data.toList = a.data.toList ++ b.data.toList := by
  rw [ByteArray.data_append, Array.toList_append]
theorem size_toList (s : ByteArray) : s.data.toList.length = s.size := by
  rw [Array.length_toList]; rfl

def isIface (P : Program) (t : Nat) : Bool :=
  match P.underlying t with
  | some (.interface _) => true
  | _ => false
theorem isIface_spec {t : Nat} (h : isIface P t = true) : ∃ ms, P.underlying t = some (.interface ms) := by
  unfold isIface at h
  split at h
  · rename_i ms hu; exact ⟨ms, hu⟩
  · cases h

theorem eq_nil_nil {t : Nat} {ms : Array (String × TypeId)} (hu : P.underlying t = some (.interface ms)) (w : World) : (Op.equal t .nilIface .nilIface).run P w = .ok true w := by
  have e : ∀ d, (Op.equalIn (d + 1) t .nilIface .nilIface).run P w = .ok true w := by
    intro d
    simp [Op.equalIn, run_underlying hu]
  exact e 9999
theorem eq_some_nil {t : Nat} {ms : Array (String × TypeId)} (hu : P.underlying t = some (.interface ms)) (tp : TypeId) (v : Value) (w : World) : (Op.equal t (.iface tp v) .nilIface).run P w = .ok false w := by
  have e : ∀ d, (Op.equalIn (d + 1) t (.iface tp v) .nilIface).run P w = .ok false w := by
    intro d
    simp [Op.equalIn, run_underlying hu]
  exact e 9999
/-- err != nil, err == nil. -/
theorem val_errNil {t t' : Nat} {x : Operand} (h : isIface P t = true) (ho : o.op = .binOp .neq t x (.const .nilIface) t') (hx : ev σ x = some .nilIface) (w : World) : Val P n σ o w (.bool false) := by
  intro ac ha
  obtain ⟨ms, hu⟩ := isIface_spec h
  have e := eq_nil_nil hu w
  have hc : ac.eval (.const .nilIface) = .nilIface := ha.eval (x := .const .nilIface) rfl
  simp [execOp, ho, ha.eval hx, hc, eqGuard, binOp, e]
theorem val_errSome {t t' : Nat} {x : Operand} (tp : TypeId) (v : Value) (h : isIface P t = true) (ho : o.op = .binOp .neq t x (.const .nilIface) t') (hx : ev σ x = some (.iface tp v)) (w : World) : Val P n σ o w (.bool true) := by
  intro ac ha
  obtain ⟨ms, hu⟩ := isIface_spec h
  have e := eq_some_nil hu tp v w
  have hc : ac.eval (.const .nilIface) = .nilIface := ha.eval (x := .const .nilIface) rfl
  simp [execOp, ho, ha.eval hx, hc, eqGuard, binOp, e]
theorem val_errNilE {t t' : Nat} {x : Operand} (h : isIface P t = true) (ho : o.op = .binOp .eql t x (.const .nilIface) t') (hx : ev σ x = some .nilIface) (w : World) : Val P n σ o w (.bool true) := by
  intro ac ha
  obtain ⟨ms, hu⟩ := isIface_spec h
  have e := eq_nil_nil hu w
  have hc : ac.eval (.const .nilIface) = .nilIface := ha.eval (x := .const .nilIface) rfl
  simp [execOp, ho, ha.eval hx, hc, eqGuard, binOp, e]
theorem val_errSomeE {t t' : Nat} {x : Operand} (tp : TypeId) (v : Value) (h : isIface P t = true) (ho : o.op = .binOp .eql t x (.const .nilIface) t') (hx : ev σ x = some (.iface tp v)) (w : World) : Val P n σ o w (.bool false) := by
  intro ac ha
  obtain ⟨ms, hu⟩ := isIface_spec h
  have e := eq_some_nil hu tp v w
  have hc : ac.eval (.const .nilIface) = .nilIface := ha.eval (x := .const .nilIface) rfl
  simp [execOp, ho, ha.eval hx, hc, eqGuard, binOp, e]

/-- A struct of two numbers. -/
def isTwo (P : Program) (t : Nat) : Bool :=
  match P.underlying t with
  | some (.struct fs) => match fs.toList with
    | [f, g] => f.offset == 0 && g.offset == 1 && (f.name != "_") && (g.name != "_") && (match P.underlying f.type with | some (.int _) => true | _ => false) && (match P.underlying g.type with | some (.int _) => true | _ => false) && !(P.stoodInHeld t) && !(P.eqGuardType P.depth t)
    | _ => false
  | _ => false

theorem run_equal_two {t : Nat} (h : isTwo P t = true) (a b x y : Int) (w : World) :
    (Op.equalIn 10000 t (.agg #[.int .i64 a, .int .i64 x]) (.agg #[.int .i64 b, .int .i64 y])).run P w = .ok (a == b && x == y) w ∧ P.eqGuardType P.depth t = false := by
  unfold isTwo at h
  split at h
  · rename_i fs hu
    split at h
    · rename_i f g hfs
      simp only [Bool.and_eq_true, beq_iff_eq, bne_iff_ne, Bool.not_eq_true'] at h
      obtain ⟨⟨⟨⟨⟨⟨⟨h1, h2⟩, h3⟩, h4⟩, h5⟩, h6⟩, h7⟩, h8⟩ := h
      refine ⟨?_, h8⟩
      have hf : P.fieldsOf t = fs := by simp [Program.fieldsOf, hu]
      split at h5
      · rename_i k0 hs
        split at h6
        · rename_i k hk
          rw [run_equalIn_struct w 9999 t _ _ (by rw [hf]; exact hu) h7, hf, hfs]
          have e1 := run_equalIn_int (P := P) w 9998 f.type .i64 k0 a b hs
          have e2 := run_equalIn_int (P := P) w 9998 g.type .i64 k x y hk
          have p1 : (part f.type #[.int .i64 a, .int .i64 x] 0).run P w = .ok (.int .i64 a) w := by simp [part, isAgg, run_underlying hs]
          have p2 : (part f.type #[.int .i64 b, .int .i64 y] 0).run P w = .ok (.int .i64 b) w := by simp [part, isAgg, run_underlying hs]
          have p3 : (part g.type #[.int .i64 a, .int .i64 x] 1).run P w = .ok (.int .i64 x) w := by simp [part, isAgg, run_underlying hk]
          have p4 : (part g.type #[.int .i64 b, .int .i64 y] 1).run P w = .ok (.int .i64 y) w := by simp [part, isAgg, run_underlying hk]
          simp only [Op.eqFields, h1, h2, h3, h4, ne_eq, not_false_eq_true, if_true, Sem.run_bind, p1, p2, Result.andThen_ok, e1]
          generalize (a == b) = p at *
          generalize (x == y) = q at *
          have e2' : (Op.equalIn 9999 g.type (.int .i64 x) (.int .i64 y)).run P w = .ok q w := e2
          cases p <;> cases q <;> simp [p3, p4, e2']
        · cases h6
      · cases h5
    · cases h
  · cases h
theorem val_neTwo {t t' : Nat} {x y : Operand} (a b k l : Int) (r : Bool) (h : isTwo P t = true) (ho : o.op = .binOp .neq t x y t') (hx : ev σ x = some (.agg #[.int .i64 a, .int .i64 k])) (hy : ev σ y = some (.agg #[.int .i64 b, .int .i64 l]))
    (hr : (!(a == b && k == l)) = r) (w : World) : Val P n σ o w (.bool r) := by
  intro ac ha
  subst hr
  obtain ⟨h1, h2⟩ := run_equal_two h a b k l w
  simp only [execOp, ho, ha.eval hx, ha.eval hy, Sem.run_bind, run_eqGuard_agg w .neq t _ _ _ _ h2, Result.andThen_ok, run_neq_struct, h1]
  simp
theorem val_eqTwo {t t' : Nat} {x y : Operand} (a b k l : Int) (r : Bool) (h : isTwo P t = true) (ho : o.op = .binOp .eql t x y t') (hx : ev σ x = some (.agg #[.int .i64 a, .int .i64 k])) (hy : ev σ y = some (.agg #[.int .i64 b, .int .i64 l]))
    (hr : (a == b && k == l) = r) (w : World) : Val P n σ o w (.bool r) := by
  intro ac ha
  subst hr
  obtain ⟨h1, h2⟩ := run_equal_two h a b k l w
  simp only [execOp, ho, ha.eval hx, ha.eval hy, Sem.run_bind, run_eqGuard_agg w .eql t _ _ _ _ h2, Result.andThen_ok, run_eql_struct, h1]
  simp
end
end E
end Go.Proofs.Ytmdjgejahnmfmaf

/- Operations of code that gives up by a panic of its own, and is caught. -/
namespace Go.Proofs.Ytmdjgejahnmfmaf
set_option maxRecDepth 20000
set_option maxHeartbeats 4000000
namespace E
open Go.Proofs

/-! ### Single operations -/
section
variable {P : Program} {T : Tbl} {n : Nat} {σ : Env} {o : Oper} {w : World}
/-- s[1:]. -/
theorem val_rest {t : TypeId} {x lo : Operand} {b q len cap sz : Nat} {k1 : IntKind} {i1 : Int} (hT : T.check P = true) (ho : o.op = .slice t x (some lo) none none) (hx : ev σ x = some (.slice (some ⟨b, q, none⟩) len cap))
    (h1 : ev σ lo = some (.int k1 i1)) (ht : find T.sl t = some sz) (e1 : i1 = 1) (hl : 1 ≤ len) (w : World) :
    Val P n σ o w (.slice (if cap = 1 then some ⟨b, q, none⟩ else some ⟨b, q + sz, none⟩) (len - 1) (cap - 1)) := by
  intro a ha
  subst e1
  have hs := Tbl.sl_ok hT ht
  unfold slOk at hs
  split at hs
  · rename_i e hu
    by_cases hc : cap = 1
    · simp [execOp, ho, ha.eval hx, ha.eval h1, Instr.sliceAt, Instr.slice, Instr.sliceBounds, Instr.sliceBound, asIntOf, run_underlying hu, sizeOk_run hs, hc]
      intro hh
      omega
    · simp [execOp, ho, ha.eval hx, ha.eval h1, Instr.sliceAt, Instr.slice, Instr.sliceBounds, Instr.sliceBound, asIntOf, run_underlying hu, sizeOk_run hs, hc, Addr.add_mid]
      intro hh
      omega
  · cases hs
def isStruct (P : Program) (t : Nat) : Bool :=
  match P.underlying t with
  | some (.struct _) => true
  | _ => false
theorem val_iface {t : TypeId} {x : Operand} {cs : Array Value} (hs : isStruct P t = true) (ho : o.op = .makeInterface t x) (hx : ev σ x = some (.agg cs)) (w : World) : Val P n σ o w (.iface t (.agg cs)) := by
  intro a ha
  unfold isStruct at hs
  split at hs
  · rename_i fs hu
    simp [execOp, ho, ha.eval hx, Instr.makeInterface, run_underlying hu]
  · cases hs
theorem opE_throw {x : Operand} {t : TypeId} {u : Value} {K Kp : Value → World → Prop} (ho : o.op = .panic x) (hx : ev σ x = some (.iface t u)) (hK : Kp (.iface t u) w) : OpE P n σ o w K Kp := by
  refine opE_panic (w' := w) (v := .iface t u) (fun a ha => ?_) hK
  simp [execOp, ho, ha.eval hx, Instr.panic, goPanic]
end

section
variable {P : Program} {n : Nat} {σ : Env} {o : Oper}
theorem val_assert {t xt : TypeId} {x : Operand} {u : Value} (hs : isStruct P t = true) (ho : o.op = .typeAssert x xt t false) (hx : ev σ x = some (.iface t u)) (w : World) : Val P n σ o w u := by
  intro a ha
  unfold isStruct at hs
  split at hs
  · rename_i fs hu
    simp [execOp, ho, ha.eval hx, Instr.typeAssert, run_underlying hu]
  · cases hs
end
theorem CallsD.mono' {P : Program} {f : FuncId} {args : Array Value} {u : FrameMode} {w : World} {R R' : Ending → FrameMode → World → Prop} (h : CallsD P f args u w R) (hr : ∀ e u' w', R e u' w' → R' e u' w') : CallsD P f args u w R' := fun c cs hc => by
  obtain ⟨e, u', w', fr, h1, h2⟩ := h c cs hc
  exact ⟨e, u', w', fr, hr e u' w' h1, h2⟩

end E
end Go.Proofs.Ytmdjgejahnmfmaf

/- The landed package ideal: how a runner lies in memory; giving up; contracts of giveUp, truth, count, read, cell. -/
namespace Go.Proofs.Ytmdjgejahnmfmaf
set_option maxRecDepth 20000
set_option maxHeartbeats 4000000
namespace E
open Go.Proofs

abbrev tRu : Nat := 53
theorem neRuL : tRu ≠ tLg := by decide
theorem size_rn : sizeOk Try.prog 3 1 = true := by kernel_rfl
theorem size_rl : sizeOk Try.prog 2 1 = true := by kernel_rfl
theorem size_rs : sizeOk Try.prog 26 1 = true := by kernel_rfl
/-- What the runner panics with. -/
def gvI (c : Nat) : Value := .iface 63 (.agg #[.int .i64 (c : Nat)])
theorem built_gI (a : Int) : Try.prog.built 63 [(0, .int .i64 a)] = some [Value.int .i64 a].toArray := by kernel_rfl
theorem iGiveUp_end (c : Nat) (w : World) : End Try.prog 32 [.int .i64 (c : Nat)] w (fun _ _ => False) (fun v w' => v = gvI c ∧ w' = w) := by
  refine end_of 5 Try.func32 rfl rfl (by simp) ?_
  refine au ?_
  refine pl_val _ rfl rfl (val_build _ rfl rfl (built_gI (c : Nat)) w) ?_
  refine pl_val _ rfl rfl (val_iface (by decide +kernel) rfl rfl w) ?_
  refine pl_opE Try.func32 rfl rfl (opE_throw rfl rfl ?_)
  exact ⟨rfl, rfl⟩
theorem iTruth_ret (t : Bool) (w : World) : Ret Try.prog 43 [.bool t] w fun r w' => r = .int .i64 (bitI t) ∧ w' = w := by
  refine ret_of 4 Try.func43 rfl rfl (by simp) ?_
  cases t
  · refine au ?_
    exact rn_ret Try.func43 (.inl ⟨_, rfl, rfl⟩) ⟨rfl, rfl⟩
  · refine au ?_
    exact rn_ret Try.func43 (.inl ⟨_, rfl, rfl⟩) ⟨rfl, rfl⟩

/-- What a run leaves alone: all blocks but those of numbers and of runners. -/
structure Rf (w w' : World) : Prop where
  size : w.heap.size ≤ w'.heap.size
  blk : ∀ {c : Nat} {L : List Value} {e : TypeId}, Blk w c L e → e ≠ tRu → e ≠ tLg → Blk w' c L e
theorem Rf.refl (w : World) : Rf w w := ⟨Nat.le_refl _, fun h _ _ => h⟩
theorem Rf.tr {w w' w'' : World} (h : Rf w w') (h' : Rf w' w'') : Rf w w'' := ⟨Nat.le_trans h.size h'.size, fun hb h1 h2 => h'.blk (h.blk hb h1 h2) h1 h2⟩
theorem Rf.of0 {w w' : World} (h : Keep [] w w') : Rf w w' := ⟨h.size, fun hb _ _ => h.blk hb (by simp)⟩
theorem Rf.of {w w' : World} {fp : List Nat} (h : Keep fp w w') (hf : ∀ k ∈ fp, ∃ L e, Blk w k L e ∧ (e = tRu ∨ e = tLg)) : Rf w w' :=
  ⟨h.size, fun hb h1 h2 => h.blk hb fun hm => by
    obtain ⟨L, e, hb', he⟩ := hf _ hm
    rcases he with he | he
    · exact Blk.ne hb hb' (fun h => h1 (h.trans he)) rfl
    · exact Blk.ne hb hb' (fun h => h2 (h.trans he)) rfl⟩

/-- What a runner is given: its program, input and fuel; where it lies, and its cells; the world in which it was not yet. -/
structure Kx where
  vs : List VarT
  bd : List ST
  F : Nat → Prop
  inp : List Int
  fuel : Nat
  w0 : World
  b : Nat
  vv : Value
  bv : Value
  cv : Value
structure Kx.Ok (C : Kx) : Prop where
  pr : ProgV C.F C.w0 (.agg #[C.vv, C.bv]) C.vs C.bd
  hF : In C.F C.w0
  sz : ∀ x ∈ C.vs, 1 ≤ x.2 ∧ x.2 ≤ 48
  vl : C.vs.length ≤ 8
  sum : sumV C.vs ≤ 48
  fu : C.fuel ≤ 3000
  il : C.inp.length ≤ 40
  ge : C.w0.heap.size ≤ C.b
theorem Kx.Ok.sized {C : Kx} (h : C.Ok) : Sized C.vs := ⟨by have := h.vl; omega, fun x hx => by have := h.sz x hx; omega⟩
/-- What of the input was not read. -/
def Un (w0 : World) (inp : List Int) (rd : Nat) (u : Value) : Prop :=
  ∃ a c, u = .slice a (inp.length - rd) c ∧ inp.length - rd ≤ c ∧ rd ≤ inp.length ∧ (rd < inp.length → ∃ g q, a = some ⟨g, q + rd, none⟩ ∧ g < w0.heap.size ∧ w0.rangeAt g q (lgs inp))
def ruC (C : Kx) (n : Nat) (u o : Value) : List Value := [.int .i64 (n : Nat), .int .i64 (C.fuel : Nat), C.vv, C.bv, u, C.cv, o]
/-- The runner as it is where s is. -/
structure Ru (C : Kx) (w : World) (u o : Value) (s : Es) : Prop where
  kp : Keep [] C.w0 w
  bk : Blk w C.b (ruC C s.n u o) tRu
  un : Un C.w0 C.inp s.read u
  rc : RowL w C.w0.heap.size C.cv s.cells
  ro : RowL w C.w0.heap.size o s.out
  ap : Apt C.cv o
  cl : (s.cells.length : Int) = sumV C.vs
  le : s.n ≤ C.fuel
  ol : s.out.length ≤ s.n
def Rt (C : Kx) (w : World) (s : Es) : Prop := ∃ u o, Ru C w u o s

section
variable {C : Kx} {w w1 w2 : World} {u o : Value} {s : Es}
theorem Ru.keep0 (h : Ru C w u o s) (hk : Keep [] w w1) : Ru C w1 u o s :=
  ⟨h.kp.tr hk, hk.blk h.bk (by simp), h.un, h.rc.keep hk (by simp), h.ro.keep hk (by simp), h.ap, h.cl, h.le, h.ol⟩
theorem Rt.keep0 (h : Rt C w s) (hk : Keep [] w w1) : Rt C w1 s := let ⟨u, o, h⟩ := h; ⟨u, o, h.keep0 hk⟩
theorem Rt.kp (h : Rt C w s) : Keep [] C.w0 w := let ⟨_, _, h⟩ := h; h.kp
theorem Rt.le (h : Rt C w s) : s.n ≤ C.fuel := let ⟨_, _, h⟩ := h; h.le
/-- Its own block alone has turned. -/
theorem Ru.put (hC : C.Ok) (h : Ru C w u o s) (hk : Keep [C.b] w w1) {u' : Value} {n rd : Nat} (hb : Blk w1 C.b (ruC C n u' o) tRu) (hu : Un C.w0 C.inp rd u') (hn : n ≤ C.fuel) (hn2 : s.n ≤ n) : Ru C w1 u' o { s with n := n, read := rd } ∧ Rf w w1 :=
  ⟨⟨h.kp.trB hk hC.ge, hb, hu, h.rc.keep hk (h.rc.ne h.bk neRuL), h.ro.keep hk (h.ro.ne h.bk neRuL), h.ap, h.cl, hn, Nat.le_trans h.ol hn2⟩, Rf.of hk fun k hm => ⟨ruC C s.n u o, tRu, by rw [List.mem_singleton.1 hm]; exact h.bk, .inl rfl⟩⟩
/-- A cell of it has turned. -/
theorem Ru.set (h : Ru C w u o s) {j : Nat} (hj : j < s.cells.length) {g cap : Nat} (hv : C.cv = .slice (some ⟨g, 0, none⟩) s.cells.length cap) : ∃ cur, Blk w g cur tLg ∧ j < cur.length ∧ ∀ {w' : World} {n : Int}, Keep [g] w w' → Blk w' g (splice cur j [.int .i64 n]) tLg → Ru C w' u o { s with cells := s.cells.set j n } ∧ Rf w w' := by
  obtain ⟨cur, h1, h2, h3⟩ := h.rc.set hj hv
  refine ⟨cur, h1, h2, fun {w' n} hk hb => ⟨⟨?_, hk.blk h.bk ?_, h.un, h3 hb, ?_, h.ap, by rw [List.length_set]; exact h.cl, h.le, h.ol⟩, Rf.of hk fun k hm => ⟨cur, tLg, by rw [List.mem_singleton.1 hm]; exact h1, .inr rfl⟩⟩⟩
  · refine h.kp.trans hk fun k hm => .inr ?_
    rw [List.mem_singleton.1 hm]
    exact (h.rc.lt g (by rw [hv]; simp [obs, Value.ownBlock])).1
  · simp only [List.mem_singleton]
    exact Blk.ne h.bk h1 neRuL
  · refine h.ro.keep hk fun k hk' hm => ?_
    rw [List.mem_singleton.1 hm] at hk'
    exact h.ap g (by rw [hv]; simp [obs, Value.ownBlock]) hk'
end

/-- It returns as X says, or gives up with X's code; where it is then. -/
def Gos {α : Type} (C : Kx) (f : Nat) (args : List Value) (w : World) (X : Ex α) (K : α → Value → World → Prop) : Prop :=
  End Try.prog f args w (fun r w' => ∃ a, X = .ok a ∧ K a r w' ∧ Rf w w') (fun v w' => ∃ e, X = .error e ∧ v = gvI e.1 ∧ Rt C w' e.2 ∧ Rf w w')
/-- What is called inside. -/
theorem gos_step {α β : Type} {C : Kx} {g : Nat} {args : List Value} {w w1 : World} {Y : Ex α} {T : Ex β} {k : α → Ex β} {K : α → Value → World → Prop} {KK : Value → World → Prop} (h : Gos C g args w1 Y K) (hX : T = bndX Y k) (hR : Rf w w1)
    (hk : ∀ a r w', T = k a → K a r w' → Rf w1 w' → Rf w w' → KK r w') : End Try.prog g args w1 KK (fun v w' => ∃ e, T = .error e ∧ v = gvI e.1 ∧ Rt C w' e.2 ∧ Rf w w') := by
  refine End.mono h ?_ ?_
  · rintro r w' ⟨a, rfl, h1, h2⟩
    exact hk a r w' hX h1 h2 (hR.tr h2)
  · rintro v w' ⟨e, rfl, h1, h2, h3⟩
    exact ⟨e, hX, h1, h2, hR.tr h3⟩
theorem bnd_id {α : Type} (X : Ex α) : X = bndX X Except.ok := by cases X <;> rfl

section
variable {C : Kx} {w : World} {u o : Value} {s : Es}
theorem iCount_end (hC : C.Ok) (h : Rt C w s) : Gos C 24 [.pointer (some ⟨C.b, 0, none⟩)] w (tick C.fuel s) fun s2 r w' => r = .tuple #[] ∧ s2 = { s with n := s.n + 1 } ∧ Rt C w' s2 := by
  obtain ⟨u, o, h⟩ := h
  have hle := h.le
  have hfu := hC.fu
  refine end_of 19 Try.func24 rfl rfl (by simp) ?_
  refine auj ?_
  refine rn_seq ?_
  refine rn_seq ?_
  refine rn_draw (fun w' => Keep [] w w') [] hMix ?_
  have hS : Keep [] w w.drew := (Keep.refl _ _).drew
  generalize w.drew = w2 at *
  refine tk 0 ?_
  refine tk 1 ?_
  refine tk 2 ?_
  refine dr_val 3 (.int .i64 (s.n : Nat)) rfl (by decide +kernel) rfl rfl (fun w9 hS9 => val_load1 hT rfl rfl rfl ((hS9.blk h.bk (by simp)).cell rfl)) hS ?_
  refine tk 4 ?_
  refine tk 5 ?_
  refine tk 6 ?_
  refine dr_val 7 (.int .i64 (C.fuel : Nat)) rfl (by decide +kernel) rfl rfl (fun w9 hS9 => val_load1 hT rfl rfl rfl ((hS9.blk h.bk (by simp)).cell rfl)) hS ?_
  have h2 := h.keep0 hS
  by_cases hlt : s.n < C.fuel
  · have hX : tick C.fuel s = .ok { s with n := s.n + 1 } := by unfold tick; rw [if_pos hlt]
    refine dno 8 ?_
    refine dr_done (by decide +kernel) ?_
    refine au ?_
    refine pl_val _ rfl rfl (val_load1 hT rfl rfl rfl (h2.bk.cell rfl)) ?_
    refine pl_num (((s.n + 1 : Nat) : Int)) rfl rfl rfl rfl rfl (by simp only [ariP]; omega) ?_
    refine au ?_
    refine pl_op rfl rfl (opTo_storeN [.int .i64 ((s.n + 1 : Nat) : Int)] rfl rfl rfl rfl size_rn h2.bk (by simp [ruC]) (one_in _) ?_)
    intro w3 hs3 hk3 hb3
    refine au ?_
    obtain ⟨h3, hR3⟩ := h2.put hC hk3 (n := s.n + 1) (rd := s.read) hb3 h2.un (by omega) (by omega)
    exact rn_end Try.func24 (.inr (.inl ⟨rfl, rfl⟩)) ⟨_, hX, ⟨rfl, rfl, u, o, h3⟩, (Rf.of0 hS).tr hR3⟩
  · have hX : tick C.fuel s = .error (13, s) := by unfold tick; rw [if_neg hlt]
    refine dye 8 ?_
    refine dr_done (by decide +kernel) ?_
    refine au ?_
    refine pl_opE Try.func24 rfl rfl (opE_call (fst := []) (cap := []) rfl rfl rfl rfl (by decide +kernel) ((iGiveUp_end 13 _).mono ?_ ?_))
    · intro v w' hf
      exact hf.elim
    · rintro v w' ⟨rfl, rfl⟩
      exact ⟨_, hX, rfl, ⟨u, o, h2⟩, Rf.of0 hS⟩

/-- A number of the input. -/
def readX (inp : List Int) (s : Es) : Ex (Int × Es) := if s.read < inp.length then .ok (inp.getD s.read 0, { s with read := s.read + 1 }) else .error (12, s)
theorem iRead_end (hC : C.Ok) (h : Rt C w s) : Gos C 39 [.pointer (some ⟨C.b, 0, none⟩)] w (readX C.inp s) fun a r w' => r = .int .i64 a.1 ∧ a.2 = { s with read := s.read + 1 } ∧ Rt C w' a.2 := by
  obtain ⟨u, o, h⟩ := h
  have hil := hC.il
  obtain ⟨a, c, rfl, hc, hrl, hat⟩ := h.un
  refine end_of 26 Try.func39 rfl rfl (by simp) ?_
  refine au ?_
  refine pl_val _ rfl rfl (val_load1 hT rfl rfl rfl (h.bk.cell rfl)) ?_
  refine au ?_
  by_cases hlt : s.read < C.inp.length
  · have hX : readX C.inp s = .ok (C.inp.getD s.read 0, { s with read := s.read + 1 }) := by unfold readX; rw [if_pos hlt]
    obtain ⟨g, q, rfl, hg, hra⟩ := hat hlt
    clear hat
    refine nay ?_
    refine au ?_
    refine pl_val _ rfl rfl (val_load1 hT rfl rfl rfl (h.bk.cell rfl)) ?_
    refine pl_val _ rfl rfl (val_index 0 hT rfl rfl rfl rfl rfl (by omega) w) ?_
    have hget : C.inp[s.read]? = some (C.inp.getD s.read 0) := by rw [List.getD_eq_getElem?_getD, List.getElem?_eq_getElem hlt]; rfl
    have hcell : w.cell? ⟨g, q + s.read, none⟩ = some (.int .i64 (C.inp.getD s.read 0)) := range_keep hra h.kp hg (by simp) s.read _ (lgs_at hget)
    refine pl_val _ rfl rfl (val_load1 hT rfl rfl rfl (hcell)) ?_
    refine au ?_
    refine pl_val _ rfl rfl (val_load1 hT rfl rfl rfl (h.bk.cell rfl)) ?_
    refine pl_val _ rfl rfl (val_rest hT rfl rfl rfl rfl rfl (by omega) w) ?_
    refine au ?_
    refine pl_op rfl rfl (opTo_storeN [.slice (if c = 1 then some ⟨g, q + s.read, none⟩ else some ⟨g, q + s.read + 1, none⟩) (C.inp.length - s.read - 1) (c - 1)] rfl rfl rfl rfl size_rs h.bk (by simp [ruC]) (one_v rfl) ?_)
    intro w3 hs3 hk3 hb3
    refine au ?_
    have hu : Un C.w0 C.inp (s.read + 1) (.slice (if c = 1 then some ⟨g, q + s.read, none⟩ else some ⟨g, q + s.read + 1, none⟩) (C.inp.length - s.read - 1) (c - 1)) :=
      ⟨if c = 1 then some ⟨g, q + s.read, none⟩ else some ⟨g, q + s.read + 1, none⟩, c - 1, by rw [show C.inp.length - (s.read + 1) = C.inp.length - s.read - 1 by omega], by omega, by omega, fun h1 => ⟨g, q, by rw [if_neg (by omega)]; rfl, hg, hra⟩⟩
    obtain ⟨h3, hR3⟩ := h.put hC hk3 (n := s.n) (rd := s.read + 1) hb3 hu h.le (Nat.le_refl _)
    exact rn_ret Try.func39 (.inl ⟨_, rfl, rfl⟩) ⟨_, hX, ⟨rfl, rfl, _, o, h3⟩, hR3⟩
  · have hX : readX C.inp s = .error (12, s) := by unfold readX; rw [if_neg hlt]
    refine ye ?_
    refine au ?_
    refine pl_opE Try.func39 rfl rfl (opE_call (fst := []) (cap := []) rfl rfl rfl rfl (by decide +kernel) ((iGiveUp_end 12 _).mono ?_ ?_))
    · intro v w' hf
      exact hf.elim
    · rintro v w' ⟨rfl, rfl⟩
      exact ⟨_, hX, rfl, ⟨_, o, h⟩, Rf.refl _⟩
end
end E
end Go.Proofs.Ytmdjgejahnmfmaf

/- The landed package ideal: contracts of cell, expr. -/
namespace Go.Proofs.Ytmdjgejahnmfmaf
set_option maxRecDepth 20000
set_option maxHeartbeats 4000000
namespace E
open Go.Proofs

theorem sizeV_at {vs : List VarT} {k : Nat} (hk : k < vs.length) : sizeV vs ((k : Nat) : Int) = vs[k].2 := by
  unfold sizeV
  rw [Int.toNat_natCast, List.getD_eq_getElem?_getD, List.getElem?_eq_getElem hk]
  rfl
theorem rcell_in {vs : List VarT} (hz : ∀ x ∈ vs, 1 ≤ x.2 ∧ x.2 ≤ 48) {v n : Int} (hv0 : 0 ≤ v) (hvl : v.toNat < vs.length) (_ : 0 ≤ n) (hn : n < sizeV vs v) : 0 ≤ cellOf vs v ∧ cellOf vs v + n < sumV vs := by
  obtain ⟨k, rfl⟩ : ∃ k : Nat, v = (k : Nat) := ⟨v.toNat, by omega⟩
  rw [Int.toNat_natCast] at hvl
  rw [sizeV_at hvl] at hn
  have h1 := sumV_take_succ (List.getElem?_eq_getElem hvl)
  have h2 := sumV_take_le hz (show k + 1 ≤ vs.length by omega)
  have h3 := sumV_take_le hz (Nat.zero_le k)
  rw [List.take_length] at h2
  have e : cellOf vs ((k : Nat) : Int) = sumV (vs.take k) := by unfold cellOf; rw [Int.toNat_natCast]
  rw [e]
  have h4 : sumV (vs.take 0) = 0 := by simp [sumV]
  omega
theorem size_pos {vs : List VarT} (hz : ∀ x ∈ vs, 1 ≤ x.2 ∧ x.2 ≤ 48) {v : Int} (hv0 : 0 ≤ v) (hvl : v.toNat < vs.length) : 1 ≤ sizeV vs v ∧ sizeV vs v ≤ 48 := by
  obtain ⟨k, rfl⟩ : ∃ k : Nat, v = (k : Nat) := ⟨v.toNat, by omega⟩
  rw [Int.toNat_natCast] at hvl
  rw [sizeV_at hvl]
  exact hz _ (List.getElem_mem _)

section
variable {C : Kx} {w : World} {u o : Value} {s : Es}
theorem iCell_end (hC : C.Ok) (h : Ru C w u o s) (v n : Int) (hv0 : 0 ≤ v) (hvl : v.toNat < C.vs.length) : End Try.prog 38 [.pointer (some ⟨C.b, 0, none⟩), .int .i64 v, .int .i64 n] w
    (fun r w' => (0 ≤ n ∧ n < sizeV C.vs v) ∧ (cellOf C.vs v + n).toNat < s.cells.length ∧ (∃ g cap, C.cv = .slice (some ⟨g, 0, none⟩) s.cells.length cap ∧ r = .pointer (some ⟨g, (cellOf C.vs v + n).toNat, none⟩)) ∧ Keep [] w w')
    (fun x w' => ¬ (0 ≤ n ∧ n < sizeV C.vs v) ∧ x = gvI 11 ∧ Keep [] w w') := by
  have hsz := size_pos hC.sz hv0 hvl
  have hin := rcell_in hC.sz hv0 hvl (n := n)
  have hsum := hC.sum
  have hcl := h.cl
  have hpr := hC.pr
  obtain ⟨vv', bv', hpe, hvv, hbb⟩ := hpr
  injection hpe with hpe
  have hpe2 := congrArg Array.toList hpe
  simp only [List.cons.injEq, and_true] at hpe2
  obtain ⟨hpe1, hpe2⟩ := hpe2
  rw [← hpe1] at hvv
  have hk : v = ((v.toNat : Nat) : Int) := by omega
  have hsv := sizeV_at hvl
  rw [← hk] at hsv
  have hxv : C.vs[v.toNat]? = some C.vs[v.toNat] := List.getElem?_eq_getElem hvl
  obtain ⟨vb, vq, vc, hve, hFv, hrv⟩ := hvv.at hxv
  refine end_of 36 Try.func38 rfl rfl (by simp) ?_
  refine au ?_
  by_cases hneg : n < 0
  · refine ye ?_
    refine au ?_
    refine pl_opE Try.func38 rfl rfl (opE_call (fst := []) (cap := []) rfl rfl rfl rfl (by decide +kernel) ((iGiveUp_end 11 _).mono ?_ ?_))
    · intro v w' hf
      exact hf.elim
    · rintro v w' ⟨rfl, rfl⟩
      exact ⟨by omega, rfl, Keep.refl _ _⟩
  · refine nay ?_
    refine au ?_
    refine pl_val (.slice (some ⟨vb, vq, none⟩) C.vs.length vc) rfl rfl (val_load1 hT rfl rfl rfl (h.bk.cell (by rw [← hve]; rfl))) ?_
    refine au ?_
    refine pl_val _ rfl rfl (val_index v.toNat hT rfl rfl rfl rfl hk hvl w) ?_
    refine au ?_
    refine pl_val _ rfl rfl (val_load1 hT rfl rfl rfl ((range_keep hrv h.kp (hC.hF _ hFv) (by simp)) 1 (.int .i64 C.vs[v.toNat].2) rfl)) ?_
    by_cases hge : n < sizeV C.vs v
    · obtain ⟨hi1, hi2⟩ := hin (by omega) hge
      rw [hsv] at hge
      refine nay ?_
      refine au ?_
      obtain ⟨j, hj⟩ : ∃ j : Nat, j = (cellOf C.vs v + n).toNat := ⟨_, rfl⟩
      have hjl : j < s.cells.length := by omega
      obtain ⟨g, cap, hcv, hglt, hgr⟩ := h.rc.at2 (List.getElem?_eq_getElem hjl)
      refine rn_draw (fun w' => Keep [] w w') [] hMix ?_
      have hS : Keep [] w w.drew := (Keep.refl _ _).drew
      generalize w.drew = w2 at *
      refine tk 0 ?_
      refine tk 1 ?_
      refine tk 2 ?_
      refine dr_val 3 (.slice (some ⟨g, 0, none⟩) s.cells.length cap) rfl (by decide +kernel) rfl rfl (fun w9 hS9 => val_load1 hT rfl rfl rfl ((hS9.blk h.bk (by simp)).cell (by rw [← hcv]; rfl))) hS ?_
      refine tk 4 ?_
      refine tk 5 ?_
      refine tk 6 ?_
      refine dr_val 7 (.agg #[C.vv, C.bv]) rfl (by decide +kernel) rfl rfl (fun w9 hS9 => val_load [C.vv, C.bv] hT rfl rfl rfl ((hS9.blk h.bk (by simp)).range (by rfl))) hS ?_
      refine tk 8 ?_
      refine tk 10 ?_
      refine dr_op 9 rfl (by decide +kernel) rfl rfl (opTo_call (fst := []) (cap := []) rfl rfl rfl rfl (by decide +kernel) ((cell_ret (hC.pr.keep (h.kp.tr hS) hC.hF.stays) (hC.hF.keep (h.kp.tr hS)) hC.sized v).mono ?_))
      rintro r w3 ⟨rfl, hk3⟩
      refine ⟨fun _ => hS.tr hk3, ?_⟩
      refine dr_num 11 ((j : Nat)) rfl (by decide +kernel) rfl rfl rfl rfl rfl (by simp only [ariP]; omega) ?_
      refine dr_any 12 _ rfl (by decide +kernel) rfl rfl (fun w => val_index j hT rfl rfl rfl rfl rfl hjl w) ?_
      refine tk 13 ?_
      refine dr_done (by decide +kernel) ?_
      refine au ?_
      refine rn_ret Try.func38 (.inl ⟨_, rfl, rfl⟩) ⟨⟨by omega, by rw [hsv]; exact hge⟩, by omega, ⟨g, cap, hcv, ?_⟩, hS.tr hk3⟩
      rw [← hj, Nat.zero_add, Nat.mul_one]
    · have hge' := hge
      rw [hsv] at hge
      refine ye ?_
      refine au ?_
      refine pl_opE Try.func38 rfl rfl (opE_call (fst := []) (cap := []) rfl rfl rfl rfl (by decide +kernel) ((iGiveUp_end 11 _).mono ?_ ?_))
      · intro v w' hf
        exact hf.elim
      · rintro v w' ⟨rfl, rfl⟩
        exact ⟨fun h => hge' h.2, rfl, Keep.refl _ _⟩
end
end E
end Go.Proofs.Ytmdjgejahnmfmaf

/- The landed package ideal: what a tree must be for a run; contract of expr. -/
namespace Go.Proofs.Ytmdjgejahnmfmaf
set_option maxRecDepth 20000
set_option maxHeartbeats 4000000
namespace E
open Go.Proofs

mutual
def rnE (nv : Nat) : ET → Prop
  | .mk op v _ l => 1 ≤ op ∧ op ≤ 8 ∧ l.length ≤ 2 ∧ (op = 2 ∨ op = 3 → 0 ≤ v ∧ v.toNat < nv) ∧ rnEs nv l
def rnEs (nv : Nat) : List ET → Prop
  | [] => True
  | t :: r => rnE nv t ∧ rnEs nv r
end
mutual
def rnS (nv : Nat) : ST → Prop
  | .mk op v e f b o => 1 ≤ op ∧ op ≤ 7 ∧ (needV op = true → 0 ≤ v ∧ v.toNat < nv) ∧ (needE op = true → rnE nv e) ∧ (needF op = true → rnE nv f) ∧ rnSs nv b ∧ rnSs nv o
def rnSs (nv : Nat) : List ST → Prop
  | [] => True
  | t :: r => rnS nv t ∧ rnSs nv r
end
theorem rnEs_at {nv : Nat} : ∀ {l : List ET} {i : Nat} {t : ET}, rnEs nv l → l[i]? = some t → rnE nv t
  | [], _, _, _, h => by simp at h
  | x :: r, 0, t, h, e => by simp at e; subst e; exact h.1
  | x :: r, i + 1, t, h, e => by simp at e; exact rnEs_at h.2 e
theorem rnSs_at {nv : Nat} : ∀ {l : List ST} {i : Nat} {t : ST}, rnSs nv l → l[i]? = some t → rnS nv t
  | [], _, _, _, h => by simp at h
  | x :: r, 0, t, h, e => by simp at e; subst e; exact h.1
  | x :: r, i + 1, t, h, e => by simp at e; exact rnSs_at h.2 e
theorem partsOf_le (op : Int) : partsOf op ≤ 2 := by
  unfold partsOf
  split
  · omega
  · split
    · omega
    · split <;> omega
mutual
theorem chkE_rn {nv : Nat} : ∀ (t : ET) {d k k' : Nat}, chkE nv t d k = .ok k' → rnE nv t
  | .mk op v n l, d, k, k', h => by
    obtain ⟨_, h1, k1, h2⟩ := chkE_inv h
    obtain ⟨a, b, c, _, e, _⟩ := ownE_inv h1
    have := partsOf_le op
    exact ⟨a, b, by omega, e, chkEs_rn l h2⟩
theorem chkEs_rn {nv : Nat} : ∀ (l : List ET) {d k k' : Nat}, chkEs nv l d k = .ok k' → rnEs nv l
  | [], _, _, _, _ => trivial
  | t :: r, d, k, k', h => by
    obtain ⟨⟨k1, h1⟩, k2, h2⟩ := chkEs_inv h
    exact ⟨chkE_rn t h1, chkEs_rn r h2⟩
end
mutual
theorem chkS_rn {nv : Nat} : ∀ (t : ST) {d k k' : Nat}, chkS nv t d k = .ok k' → rnS nv t
  | .mk op v e f b o, d, k, k', h => by
    obtain ⟨_, h1, h2, h3, ⟨k1, k2, h4⟩, k3, k4, h5⟩ := chkS_inv h
    obtain ⟨a, a', _, _, _, _, c, _⟩ := ownS_inv h1
    exact ⟨a, a', c, fun hn => (let ⟨_, _, hc⟩ := h2 hn; chkE_rn e hc), fun hn => (let ⟨_, _, hc⟩ := h3 hn; chkE_rn f hc), chkSs_rn b h4, chkSs_rn o h5⟩
theorem chkSs_rn {nv : Nat} : ∀ (l : List ST) {d k k' : Nat}, chkSs nv l d k = .ok k' → rnSs nv l
  | [], _, _, _, _ => trivial
  | t :: r, d, k, k', h => by
    obtain ⟨⟨k1, h1⟩, k2, h2⟩ := chkSs_inv h
    exact ⟨chkS_rn t h1, chkSs_rn r h2⟩
end

theorem bnd_assoc {α β γ : Type} (x : Ex α) (f : α → Ex β) (g : β → Ex γ) : bndX (bndX x f) g = bndX x fun a => bndX (f a) g := by cases x <;> rfl
theorem cellAt_of {l : List Int} {k : Int} (h : k.toNat < l.length) : l[k.toNat]? = some (cellAt l k) := by
  unfold cellAt
  rw [List.getD_eq_getElem?_getD, List.getElem?_eq_getElem h]
  rfl
theorem Rf.trB {w w' w'' : World} {k : Nat} (h : Rf w w') (hk : Keep [k] w' w'') (hge : w.heap.size ≤ k) : Rf w w'' :=
  ⟨Nat.le_trans h.size hk.size, fun hb h1 h2 => hk.blk (h.blk hb h1 h2) (by simp only [List.mem_singleton]; have := hb.lt; omega)⟩

def pts (xs : List Int) : List Value := [.int .i64 (xs.getD 0 0), .int .i64 (xs.getD 1 0)]
theorem pts_put {xs : List Int} {i : Nat} (hi : xs.length = i) (h2 : i < 2) (y : Int) : splice (pts xs) (0 + i * 1) [.int .i64 y] = pts (xs ++ [y]) := by
  match xs, hi, h2 with
  | [], rfl, _ => rfl
  | [x], rfl, _ => rfl
  | x :: z :: r, rfl, h => simp at h; omega
theorem zero_pt : ((Try.prog.info? 87).bind (·.zero)).map (·.cells) = some (pts []).toArray := by kernel_rfl
theorem zero_ie : ((Try.prog.info? 42).bind (·.zero)).map (·.cells) = some [Value.int .i64 0, .int .i64 0, .int .i64 0, .slice none 0 0].toArray := by kernel_rfl
theorem size_ie : sizeOk Try.prog 42 4 = true := by kernel_rfl
theorem neERu : 42 ≠ tRu := by decide
theorem neELg : 42 ≠ tLg := by decide
theorem nePRu : 87 ≠ tRu := by decide
theorem nePLg : 87 ≠ tLg := by decide

/-- expr does for what is smaller. -/
def ExI (C : Kx) (z : Nat) : Prop := ∀ (t : ET), szE t < z → rnE C.vs.length t → ∀ {w : World} {cs : List Value} {s : Es}, ExprV C.F C.w0 cs t → Rt C w s →
    Gos C 42 [.pointer (some ⟨C.b, 0, none⟩), .agg cs.toArray] w (evE C.vs C.fuel t s) fun a r w' => r = .int .i64 a.1 ∧ s.n ≤ a.2.n ∧ Rt C w' a.2

theorem iexpr_end {C : Kx} (hC : C.Ok) : ∀ (z : Nat), ExI C z := by
  intro z
  induction z with
  | zero => intro t ht; omega
  | succ z ihs =>
    intro t ht hrn w cs s hX h
    obtain ⟨op, v, n, l⟩ := t
    obtain ⟨lv, rfl, hE⟩ := hX.inv
    obtain ⟨a, cap, rfl⟩ := hE.form
    obtain ⟨ho1, ho8, hl2, hvr, hrl⟩ := hrn
    simp only [szE] at ht
    obtain ⟨TOT, hT0⟩ : ∃ TOT, TOT = evE C.vs C.fuel (.mk op v n l) s := ⟨_, rfl⟩
    rw [← hT0]
    have hT1 : TOT = bndX (evEs C.vs C.fuel (l.drop 0) s) fun c => bndX (tick C.fuel c.2) fun s2 => sayE C.vs op v n ([] ++ c.1) s2 := by
      rw [hT0]
      rfl
    clear hT0
    refine end_of 80 Try.func42 rfl rfl (by simp) ?_
    refine au ?_
    refine pl_op rfl rfl (opTo_boxN [.int .i64 op, .int .i64 v, .int .i64 n, .slice a l.length cap] rfl rfl rfl ?_)
    intro w1 x3 hx3 hs1 hk1 hX1
    refine au ?_
    refine pl_op rfl rfl (opTo_allocN _ rfl zero_pt ?_)
    intro w2 x5 hx5 hs2 hk2 hP2
    have hk02 := hk1.tr hk2
    have h2 := h.keep0 hk02
    have hX2 := hk2.blk hX1 (by simp)
    have hR2 : Rf w w2 := Rf.of0 hk02
    refine au ?_
    refine pl_val _ rfl rfl (val_load1 hT rfl rfl rfl (hX2.cell rfl)) ?_
    refine au ?_
    refine rn_ind (fun m σ w' => ∃ (i : Nat) (xs : List Int) (s' : Es), i ≤ l.length ∧ m = l.length - i ∧ xs.length = i ∧ σ = [(0, .pointer (some ⟨C.b, 0, none⟩)), (3, .pointer (some ⟨x3, 0, none⟩)), (5, .pointer (some ⟨x5, 0, none⟩)), (11, .slice a l.length cap), (12, .int .i64 (l.length : Nat)), (13, .int .i64 (i : Nat))] ∧
      TOT = bndX (evEs C.vs C.fuel (l.drop i) s') (fun c => bndX (tick C.fuel c.2) fun s2 => sayE C.vs op v n (xs ++ c.1) s2) ∧ Rt C w' s' ∧ s.n ≤ s'.n ∧ Rf w w' ∧ Blk w' x3 [.int .i64 op, .int .i64 v, .int .i64 n, .slice a l.length cap] 42 ∧ Blk w' x5 (pts xs) 87)
      l.length _ ?_ ⟨0, [], s, by omega, by omega, rfl, rfl, hT1, h2, Nat.le_refl _, hR2, hX2, hP2⟩ ?_
    · exact ⟨rfl, rfl, rfl, rfl, rfl, rfl, trivial⟩
    rintro m σ w6 ih ⟨i, xs, s', hi, rfl, hxs, rfl, hT6, h6, hn6, hR6, hX6, hP6⟩
    refine au ?_
    by_cases hlt : i < l.length
    · refine ye ?_
      have hxi : l[i]? = some l[i] := List.getElem?_eq_getElem hlt
      obtain ⟨b1, q1, c1, ci, hv1, hF1, hr1, hc1⟩ := hE.at hxi
      cases hv1
      have hszi := szEs_succ hxi
      have hszt := szEs_take l (i + 1)
      have hT7 : TOT = bndX (evE C.vs C.fuel l[i] s') fun y => bndX (evEs C.vs C.fuel (l.drop (i + 1)) y.2) fun c => bndX (tick C.fuel c.2) fun s2 => sayE C.vs op v n ((xs ++ [y.1]) ++ c.1) s2 := by
        rw [hT6, List.drop_eq_getElem_cons hlt]
        simp only [evEs]
        rw [bnd_assoc]
        congr 1
        funext y
        rw [bnd_assoc]
        congr 1
        funext c
        show bndX (tick C.fuel c.2) (fun s2 => sayE C.vs op v n (xs ++ y.1 :: c.1) s2) = _
        rw [show xs ++ y.1 :: c.1 = xs ++ [y.1] ++ c.1 by simp]
      refine au ?_
      refine pl_val _ rfl rfl (val_index i hT rfl rfl rfl rfl rfl hlt w6) ?_
      refine pl_val (.agg ci.toArray) rfl rfl (val_load ci hT rfl rfl (by rw [hc1.length]; rfl) (range_keep hr1 h6.kp (hC.hF _ hF1) (by simp))) ?_
      refine pl_op rfl rfl (opTo_allocN _ rfl zero_ie ?_)
      intro w7 x7 hx7 hs7 hk7 hb7
      refine au ?_
      refine pl_op rfl rfl (opTo_storeN ci rfl rfl rfl rfl (by rw [hc1.length]; exact size_ie) hb7 (by rw [hc1.length]; simp) hc1.one ?_)
      intro w8 hs8 hk8 hb8
      rw [splice_whole (by rw [hc1.length]; rfl)] at hb8
      have hk68 : Keep [] w6 w8 := hk7.trB hk8 (by omega)
      refine au ?_
      refine pl_val (.agg ci.toArray) rfl rfl (val_load ci hT rfl rfl (by rw [hc1.length]; rfl) (hb8.range (by simp))) ?_
      refine pl_opE Try.func42 rfl rfl (opE_call (fst := []) (cap := []) rfl rfl rfl rfl (by decide +kernel) (gos_step (ihs l[i] (by omega) (rnEs_at hrl hxi) hc1 (h6.keep0 hk68)) hT7 (hR6.tr (Rf.of0 hk68)) ?_))
      rintro ⟨y, s9⟩ r w9 hT9 ⟨rfl, hn9, h9⟩ hQ9 hR9
      have hX9 := hQ9.blk (hk68.blk hX6 (by simp)) neERu neELg
      have hP9 := hQ9.blk (hk68.blk hP6 (by simp)) nePRu nePLg
      have hge5 : w.heap.size ≤ x5 := by have := hk1.size; omega
      refine pl_val _ rfl rfl (val_indexArr i hT rfl rfl rfl rfl rfl (by omega) w9) ?_
      refine pl_op rfl rfl (opTo_storeN [.int .i64 y] rfl rfl rfl rfl size_rl hP9 (by simp [pts]; omega) (one_in _) ?_)
      intro w10 hs10 hk10 hb10
      rw [pts_put hxs (by omega)] at hb10
      refine au ?_
      refine pl_num (((i + 1 : Nat) : Int)) rfl rfl rfl rfl rfl (by simp only [ariP]; omega) ?_
      refine au ?_
      have h10 : Rt C w10 s9 := by
        obtain ⟨u, o, h9⟩ := h9
        refine ⟨u, o, h9.kp.trB hk10 (by have := h.kp.size; omega), hk10.blk h9.bk ?_, h9.un, h9.rc.keep hk10 (h9.rc.ne hP9 nePLg), h9.ro.keep hk10 (h9.ro.ne hP9 nePLg), h9.ap, h9.cl, h9.le, h9.ol⟩
        simp only [List.mem_singleton]
        exact Blk.ne h9.bk hP9 nePRu.symm
      have hX10 := hk10.blk hX9 (by simp only [List.mem_singleton]; exact Blk.ne hX9 hP9 (by decide))
      refine rn_sub ?_ (ih (l.length - (i + 1)) [(0, .pointer (some ⟨C.b, 0, none⟩)), (3, .pointer (some ⟨x3, 0, none⟩)), (5, .pointer (some ⟨x5, 0, none⟩)), (11, .slice (some ⟨b1, q1, none⟩) l.length cap), (12, .int .i64 (l.length : Nat)), (13, .int .i64 ((i + 1 : Nat) : Int))] w10 (by omega) ⟨i + 1, xs ++ [y], s9, by omega, rfl, by simp [hxs], rfl, hT9, h10, by dsimp only at hn9; omega, hR9.trB hk10 hge5, hX10, hb10⟩)
      exact ⟨rfl, rfl, rfl, rfl, rfl, rfl, trivial⟩
    · refine nay ?_
      rw [List.drop_of_length_le (by omega)] at hT6
      have hT7 : TOT = bndX (tick C.fuel s') fun s2 => sayE C.vs op v n xs s2 := by
        rw [hT6]
        show bndX (tick C.fuel s') (fun s2 => sayE C.vs op v n (xs ++ []) s2) = _
        rw [List.append_nil]
      clear hT6
      refine au ?_
      refine pl_opE Try.func42 rfl rfl (opE_call (fst := []) (cap := []) rfl rfl rfl rfl (by decide +kernel) (gos_step (iCount_end hC h6) hT7 hR6 ?_))
      rintro s8 r w8 hT8 ⟨rfl, hs8e, h8⟩ hQ8 hR8
      have hn8 : s.n ≤ s8.n := by rw [hs8e]; show s.n ≤ s'.n + 1; omega
      clear hs8e hT7
      have hX8 := hQ8.blk hX6 neERu neELg
      have hP8 := hQ8.blk hP6 nePRu nePLg
      refine au ?_
      refine rn_draw (fun w' => Keep [] w8 w') [] hMix ?_
      have hS : Keep [] w8 w8.drew := (Keep.refl _ _).drew
      generalize w8.drew = w9 at *
      refine dr_any 0 _ rfl (by decide +kernel) rfl rfl (fun w => val_indexArr 0 hT rfl rfl rfl rfl rfl (by omega) w) ?_
      refine dr_val 1 (.int .i64 (xs.getD 0 0)) rfl (by decide +kernel) rfl rfl (fun w9 hS9 => val_load1 hT rfl rfl rfl ((hS9.blk hP8 (by simp)).cell rfl)) hS ?_
      refine dr_any 2 _ rfl (by decide +kernel) rfl rfl (fun w => val_indexArr 1 hT rfl rfl rfl rfl rfl (by omega) w) ?_
      refine dr_val 3 (.int .i64 (xs.getD 1 0)) rfl (by decide +kernel) rfl rfl (fun w9 hS9 => val_load1 hT rfl rfl rfl ((hS9.blk hP8 (by simp)).cell rfl)) hS ?_
      refine tk 4 ?_
      refine tk 5 ?_
      refine dr_done (by decide +kernel) ?_
      replace h8 := h8.keep0 hS
      have hX9 := hS.blk hX8 (by simp)
      replace hR8 := hR8.tr (Rf.of0 hS)
      generalize hy0 : xs.getD 0 0 = y0 at *
      generalize hy1 : xs.getD 1 0 = y1 at *
      have hT9 := hT8
      unfold sayE at hT9
      rw [hy0, hy1] at hT9
      clear hT8
      refine au ?_
      refine pl_val _ rfl rfl (val_load1 hT rfl rfl rfl (hX9.cell rfl)) ?_
      refine au ?_
      by_cases h1 : op = 1
      · refine ye ?_
        rw [if_pos h1] at hT9
        refine au ?_
        refine pl_val _ rfl rfl (val_load1 hT rfl rfl rfl (hX9.cell rfl)) ?_
        refine au ?_
        exact rn_ret Try.func42 (.inl ⟨_, rfl, rfl⟩) ⟨_, hT9, ⟨rfl, hn8, h8⟩, hR8⟩
      refine nay ?_
      refine au ?_
      rw [if_neg h1] at hT9
      by_cases h2 : op = 2
      · obtain ⟨hv0, hvl⟩ := hvr (.inl h2)
        have hsz := size_pos hC.sz hv0 hvl
        refine ye ?_
        rw [if_pos h2] at hT9
        refine au ?_
        refine pl_val _ rfl rfl (val_load1 hT rfl rfl rfl (hX9.cell rfl)) ?_
        obtain ⟨u, o, h8⟩ := h8
        refine pl_opE Try.func42 rfl rfl (opE_call (fst := []) (cap := []) rfl rfl rfl rfl (by decide +kernel) ((iCell_end hC h8 v 0 hv0 hvl).mono ?_ ?_))
        rotate_left
        · rintro x w' ⟨hno, _⟩
          exfalso
          omega
        rintro r w10 ⟨_, hjl, ⟨g, cap, hcv, rfl⟩, hk10⟩
        have h10 := h8.keep0 hk10
        rw [Int.add_zero] at hjl ⊢
        obtain ⟨g', cap', hcv', hcell⟩ := h10.rc.at (cellAt_of hjl)
        have hgg : g = g' := by rw [hcv] at hcv'; injection hcv' with e1; injection e1 with e1; injection e1
        subst hgg
        refine au ?_
        refine pl_val _ rfl rfl (val_load1 hT rfl rfl rfl (hcell)) ?_
        refine au ?_
        exact rn_ret Try.func42 (.inl ⟨_, rfl, rfl⟩) ⟨_, hT9, ⟨rfl, hn8, u, o, h10⟩, hR8.tr (Rf.of0 hk10)⟩
      refine nay ?_
      refine au ?_
      rw [if_neg h2] at hT9
      by_cases h3 : op = 3
      · obtain ⟨hv0, hvl⟩ := hvr (.inr h3)
        refine ye ?_
        rw [if_pos h3] at hT9
        refine au ?_
        refine pl_val _ rfl rfl (val_load1 hT rfl rfl rfl (hX9.cell rfl)) ?_
        refine au ?_
        obtain ⟨u, o, h8⟩ := h8
        refine pl_opE Try.func42 rfl rfl (opE_call (fst := []) (cap := []) rfl rfl rfl rfl (by decide +kernel) ((iCell_end hC h8 v y0 hv0 hvl).mono ?_ ?_))
        rotate_left
        · rintro x w' ⟨hno, rfl, hk10⟩
          rw [if_neg hno] at hT9
          exact ⟨_, hT9, rfl, ⟨u, o, h8.keep0 hk10⟩, hR8.tr (Rf.of0 hk10)⟩
        rintro r w10 ⟨hyes, hjl, ⟨g, cap, hcv, rfl⟩, hk10⟩
        rw [if_pos hyes] at hT9
        have h10 := h8.keep0 hk10
        obtain ⟨g', cap', hcv', hcell⟩ := h10.rc.at (cellAt_of hjl)
        have hgg : g = g' := by rw [hcv] at hcv'; injection hcv' with e1; injection e1 with e1; injection e1
        subst hgg
        refine au ?_
        refine pl_val _ rfl rfl (val_load1 hT rfl rfl rfl (hcell)) ?_
        refine au ?_
        exact rn_ret Try.func42 (.inl ⟨_, rfl, rfl⟩) ⟨_, hT9, ⟨rfl, hn8, u, o, h10⟩, hR8.tr (Rf.of0 hk10)⟩
      refine nay ?_
      refine au ?_
      rw [if_neg h3] at hT9
      unfold ariI at hT9
      by_cases h4 : op = 4
      · refine ye ?_
        rw [if_pos h4] at hT9
        refine au ?_
        refine pl_val _ rfl rfl (val_int _ _ _ _ rfl rfl rfl (by rfl) _) ?_
        refine au ?_
        exact rn_ret Try.func42 (.inl ⟨_, rfl, rfl⟩) ⟨_, hT9, ⟨rfl, hn8, h8⟩, hR8⟩
      refine nay ?_
      refine au ?_
      rw [if_neg h4] at hT9
      by_cases h5 : op = 5
      · refine ye ?_
        rw [if_pos h5] at hT9
        refine au ?_
        refine pl_val _ rfl rfl (val_int _ _ _ _ rfl rfl rfl (by rfl) _) ?_
        refine au ?_
        exact rn_ret Try.func42 (.inl ⟨_, rfl, rfl⟩) ⟨_, hT9, ⟨rfl, hn8, h8⟩, hR8⟩
      refine nay ?_
      refine au ?_
      rw [if_neg h5] at hT9
      by_cases h6' : op = 6
      · refine ye ?_
        rw [if_pos h6'] at hT9
        refine au ?_
        refine pl_val _ rfl rfl (val_int _ _ _ _ rfl rfl rfl (by rfl) _) ?_
        refine au ?_
        exact rn_ret Try.func42 (.inl ⟨_, rfl, rfl⟩) ⟨_, hT9, ⟨rfl, hn8, h8⟩, hR8⟩
      refine nay ?_
      refine au ?_
      rw [if_neg h6'] at hT9
      by_cases h7 : op = 7
      · refine ye ?_
        rw [if_pos h7] at hT9
        refine au ?_
        refine pl_val _ rfl rfl (val_int _ _ _ _ rfl rfl rfl (by rfl) _) ?_
        refine pl_op rfl rfl (opTo_call (fst := []) (cap := []) rfl rfl rfl rfl (by decide +kernel) ((iTruth_ret _ _).mono ?_))
        rintro r w' ⟨rfl, rfl⟩
        refine au ?_
        exact rn_ret Try.func42 (.inl ⟨_, rfl, rfl⟩) ⟨_, hT9, ⟨rfl, hn8, h8⟩, hR8⟩
      refine nay ?_
      refine au ?_
      rw [if_neg h7] at hT9
      refine pl_val _ rfl rfl (val_int _ _ _ _ rfl rfl rfl (by rfl) _) ?_
      refine pl_op rfl rfl (opTo_call (fst := []) (cap := []) rfl rfl rfl rfl (by decide +kernel) ((iTruth_ret _ _).mono ?_))
      rintro r w' ⟨rfl, rfl⟩
      refine au ?_
      exact rn_ret Try.func42 (.inl ⟨_, rfl, rfl⟩) ⟨_, hT9, ⟨rfl, hn8, h8⟩, hR8⟩
end E
end Go.Proofs.Ytmdjgejahnmfmaf

/- The landed package ideal: what its statements do, as mathematics; contracts of asked, chosen. -/
namespace Go.Proofs.Ytmdjgejahnmfmaf
set_option maxRecDepth 20000
set_option maxHeartbeats 4000000
namespace E
open Go.Proofs

/-- What a statement's expressions say. -/
def askX (C : Kx) (op : Int) (e f : ET) (s : Es) : Ex (Int × Int × Es) :=
  bndX (if needE op then evE C.vs C.fuel e s else .ok (0, s)) fun a => bndX (if needF op then evE C.vs C.fuel f a.2 else .ok (0, a.2)) fun c => .ok (a.1, c.1, c.2)
/-- A body, if a number says so. -/
def chX (C : Kx) (x : Int) (b : List ST) (s : Es) : Ex (Bool × Es) :=
  if x = 0 then .ok (false, s) else bndX (evSs C.vs C.inp C.fuel b s) fun s3 => bndX (tick C.fuel s3) fun s4 => .ok (true, s4)
/-- What a statement does, once; whether it is to be done again. -/
def doX (C : Kx) (op v x y : Int) (b o : List ST) (s : Es) : Ex (Bool × Es) :=
  if op = 5 then chX C x b s
  else if op = 6 then bndX (chX C x b s) fun c => if c.1 = true then .ok (false, c.2) else bndX (evSs C.vs C.inp C.fuel o c.2) fun s3 => .ok (false, s3)
  else bndX (sayS C.vs C.inp op v x y s) fun s3 => .ok (false, s3)
def agX (C : Kx) : ST → Es → Ex (Bool × Es)
  | .mk op v e f b o, s => bndX (askX C op e f s) fun a => bndX (tick C.fuel a.2.2) fun s2 => doX C op v a.1 a.2.1 b o s2
/-- So often at most. -/
def loA (C : Kx) (t : ST) : Nat → Es → Ex Es
  | 0, s => .error (13, s)
  | g + 1, s => bndX (agX C t s) fun a => if a.1 = true then loA C t g a.2 else .ok a.2
theorem ask_one (C : Kx) {op : Int} (e f : ET) (s : Es) (h1 : needE op = true) (h2 : needF op = false) : askX C op e f s = bndX (evE C.vs C.fuel e s) fun a => .ok (a.1, 0, a.2) := by
  unfold askX
  rw [h1, h2]
  simp only [if_true, Bool.false_eq_true, if_false]
  cases evE C.vs C.fuel e s <;> rfl
theorem loop_loA (C : Kx) {op v : Int} {e f : ET} {b o : List ST} (h : op = 5) : ∀ (g : Nat) (s : Es), loopX C.fuel (evE C.vs C.fuel e) (evSs C.vs C.inp C.fuel b) g s = loA C (.mk op v e f b o) g s
  | 0, s => rfl
  | g + 1, s => by
    simp only [loopX, loA, agX]
    rw [ask_one C e f s (by rw [h]; rfl) (by rw [h]; rfl)]
    simp only [bnd_assoc]
    congr 1
    funext a
    show _ = bndX (tick C.fuel a.2) _
    congr 1
    funext s2
    unfold doX chX
    rw [if_pos h]
    by_cases h0 : a.1 = 0
    · rw [if_pos h0, if_pos h0]
      rfl
    · rw [if_neg h0, if_neg h0, bnd_assoc]
      congr 1
      funext s3
      rw [bnd_assoc]
      congr 1
      funext s4
      exact loop_loA C h g s4
theorem evS_once (C : Kx) {op v : Int} {e f : ET} {b o : List ST} (h : ¬ op = 5) (s : Es) : agX C (.mk op v e f b o) s = bndX (evS C.vs C.inp C.fuel (.mk op v e f b o) s) fun s1 => .ok (false, s1) := by
  simp only [agX, evS]
  rw [if_neg h]
  by_cases h6 : op = 6
  · rw [ask_one C e f s (by rw [h6]; rfl) (by rw [h6]; rfl), if_pos h6]
    simp only [bnd_assoc]
    congr 1
    funext a
    show bndX (tick C.fuel a.2) _ = _
    congr 1
    funext s2
    unfold doX chX
    rw [if_neg h, if_pos h6]
    by_cases h0 : a.1 = 0
    · rw [if_pos h0, if_pos h0]
      rfl
    · rw [if_neg h0, if_neg h0, bnd_assoc, bnd_assoc]
      congr 1
      funext s3
      rw [bnd_assoc]
      rfl
  · rw [if_neg h6]
    unfold askX
    simp only [bnd_assoc]
    congr 1
    funext a
    congr 1
    funext c
    show bndX (tick C.fuel c.2) _ = _
    congr 1
    funext s2
    unfold doX
    rw [if_neg h, if_neg h6]
theorem evS_loA (C : Kx) (t : ST) (s : Es) : evS C.vs C.inp C.fuel t s = loA C t (C.fuel + 1) s := by
  obtain ⟨op, v, e, f, b, o⟩ := t
  by_cases h : op = 5
  · rw [← loop_loA C h]
    simp only [evS]
    rw [if_pos h]
  · simp only [loA]
    rw [evS_once C h, bnd_assoc]
    exact bnd_id _

section
variable {C : Kx} {w w1 w2 : World} {u o : Value} {s : Es}
/-- One more was printed. -/
theorem Ru.print (hC : C.Ok) (h : Ru C w u o s) (hn : s.out.length + 1 ≤ s.n) {o' : Value} {n : Int} (hk1 : Keep (obs o) w w1) (hrow : RowL w1 C.w0.heap.size o' (s.out ++ [n])) (hob : ∀ x ∈ obs o', x ∈ obs o ∨ w.heap.size ≤ x) (hk : Keep [C.b] w1 w2) (hb : Blk w2 C.b (ruC C s.n u o') tRu) : Ru C w2 u o' { s with out := s.out ++ [n] } ∧ Rf w w2 := by
  have hbk1 := hk1.blk h.bk fun hm => h.ro.ne h.bk neRuL C.b hm (by simp)
  have hrc1 := h.rc.keep hk1 fun x hx hm => h.ap x hx hm
  refine ⟨⟨(h.kp.trans hk1 fun x hx => .inr (h.ro.lt x hx).1).trB hk hC.ge, hb, h.un, hrc1.keep hk (hrc1.ne hbk1 neRuL), hrow.keep hk (hrow.ne hbk1 neRuL), fun x hx hm => ?_, h.cl, h.le, by show (s.out ++ [n]).length ≤ s.n; simp; omega⟩, ?_⟩
  · rcases hob x hm with h2 | h2
    · exact h.ap x hx h2
    · have := (h.rc.lt x hx).2; omega
  · refine (Rf.of hk1 fun k hm => ?_).tr (Rf.of hk fun k hm => ⟨ruC C s.n u o, tRu, by rw [List.mem_singleton.1 hm]; exact hbk1, .inl rfl⟩)
    obtain ⟨L, hL⟩ := h.ro.blk k hm
    exact ⟨L, tLg, hL, .inr rfl⟩

theorem neSRu : 44 ≠ tRu := by decide
theorem neSLg : 44 ≠ tLg := by decide
theorem iAsked_end (hC : C.Ok) {op v : Int} {e f : ET} {b' o' : List ST} {cs : List Value} (hrn : rnS C.vs.length (.mk op v e f b' o')) (hS : StmtV C.F C.w0 cs (.mk op v e f b' o')) (h : Rt C w s) :
    Gos C 37 [.pointer (some ⟨C.b, 0, none⟩), .agg cs.toArray] w (askX C op e f s) fun a r w' => r = .tuple #[.int .i64 a.1, .int .i64 a.2.1] ∧ s.n ≤ a.2.2.n ∧ Rt C w' a.2.2 := by
  obtain ⟨_, _, _, hrE, hrF, _, _⟩ := hrn
  obtain ⟨ce, cf, bv, ov, rfl, he, hf, hb, ho⟩ := hS.inv
  obtain ⟨ba, bc, rfl⟩ := hb.form
  obtain ⟨oa, oc, rfl⟩ := ho.form
  obtain ⟨e0, e1, e2, e3, rfl⟩ := list4 he.length
  obtain ⟨f0, f1, f2, f3, rfl⟩ := list4 hf.length
  obtain ⟨TOT, hT0⟩ : ∃ TOT, TOT = askX C op e f s := ⟨_, rfl⟩
  rw [← hT0]
  unfold askX at hT0
  refine end_of 32 Try.func37 rfl rfl (by simp) ?_
  refine au ?_
  refine pl_op rfl rfl (opTo_boxN [.int .i64 op, .int .i64 v, e0, e1, e2, e3, f0, f1, f2, f3, .slice ba b'.length bc, .slice oa o'.length oc] rfl rfl rfl ?_)
  intro w1 x3 hx3 hs1 hk1 hX1
  have h1 := h.keep0 hk1
  refine au ?_
  refine pl_val _ rfl rfl (val_load1 hT rfl rfl rfl (hX1.cell rfl)) ?_
  refine pl_op rfl rfl (opTo_call (fst := []) (cap := []) rfl rfl rfl rfl (by decide +kernel) ((has_ret op w1).mono ?_))
  rintro r w1' ⟨rfl, hww⟩
  rw [hww]
  unfold hasV
  obtain ⟨qe, hqe⟩ : ∃ q, q = needE op := ⟨_, rfl⟩
  obtain ⟨qf, hqf⟩ : ∃ q, q = needF op := ⟨_, rfl⟩
  rw [← hqe] at hT0 hrE ⊢
  rw [← hqf] at hT0 hrF ⊢
  refine auj ?_
  refine rn_seq ?_
  refine rn_with (fun σ' w' => ∃ (x : Int) (s2 : Es), TOT = bndX (if qf then evE C.vs C.fuel f s2 else .ok (0, s2)) (fun c => .ok (x, c.1, c.2)) ∧ Rt C w' s2 ∧ s.n ≤ s2.n ∧ Rf w w' ∧ Blk w' x3 [.int .i64 op, .int .i64 v, e0, e1, e2, e3, f0, f1, f2, f3, .slice ba b'.length bc, .slice oa o'.length oc] 44 ∧ Sub [(0, .pointer (some ⟨C.b, 0, none⟩)), (3, .pointer (some ⟨x3, 0, none⟩)), (4, .int .i64 x), (5, .int .i64 0), (7, .bool qf)] σ') ?_ ?_
  rotate_left
  · intro fin
    refine rn_seq ?_
    refine rn_plain ?_
    cases qe with
    | false =>
      refine auj ?_
      exact fin _ _ ⟨0, s, by rw [hT0]; rfl, h1, Nat.le_refl _, Rf.of0 hk1, hX1, rfl, rfl, rfl, rfl, rfl, trivial⟩
    | true =>
      rw [if_pos rfl] at hT0
      refine auj ?_
      refine rn_plain ?_
      refine auj ?_
      refine pl_val (.agg #[e0, e1, e2, e3]) rfl rfl (val_load [e0, e1, e2, e3] hT rfl rfl rfl (hX1.range (by rfl))) ?_
      refine pl_opE Try.func37 rfl rfl (opE_call (fst := []) (cap := []) rfl rfl rfl rfl (by decide +kernel) (gos_step (iexpr_end hC (szE e + 1) e (by omega) (hrE rfl) he h1) hT0 (Rf.of0 hk1) ?_))
      rintro ⟨y, s2⟩ r w2 hT2 ⟨rfl, hn2, h2⟩ hQ2 hR2
      refine auj ?_
      exact fin _ _ ⟨y, s2, hT2, h2, hn2, hR2, hQ2.blk hX1 neSRu neSLg, rfl, rfl, rfl, rfl, rfl, trivial⟩
  · rintro σ' w2 ⟨x, s2, hT2, h2, hn2, hR2, hX2, hsub⟩
    refine rn_sub hsub ?_
    refine rn_seq ?_
    refine rn_with (fun σ' w' => ∃ (y : Int) (s3 : Es), TOT = .ok (x, y, s3) ∧ Rt C w' s3 ∧ s.n ≤ s3.n ∧ Rf w w' ∧ Sub [(4, .int .i64 x), (5, .int .i64 y)] σ') ?_ ?_
    rotate_left
    · intro fin
      refine rn_seq ?_
      refine rn_plain ?_
      cases qf with
      | false =>
        refine auj ?_
        exact fin _ _ ⟨0, s2, by rw [hT2]; rfl, h2, hn2, hR2, rfl, rfl, trivial⟩
      | true =>
        rw [if_pos rfl] at hT2
        refine auj ?_
        refine rn_plain ?_
        refine auj ?_
        refine pl_val (.agg #[f0, f1, f2, f3]) rfl rfl (val_load [f0, f1, f2, f3] hT rfl rfl rfl (hX2.range (by rfl))) ?_
        refine pl_opE Try.func37 rfl rfl (opE_call (fst := []) (cap := []) rfl rfl rfl rfl (by decide +kernel) (gos_step (iexpr_end hC (szE f + 1) f (by omega) (hrF rfl) hf h2) hT2 hR2 ?_))
        rintro ⟨y, s3⟩ r w3 hT3 ⟨rfl, hn3, h3⟩ hQ3 hR3
        refine auj ?_
        exact fin _ _ ⟨y, s3, hT3, h3, Nat.le_trans hn2 hn3, hR3, rfl, rfl, trivial⟩
    · rintro σ' w3 ⟨y, s3, hT3, h3, hn3, hR3, hsub⟩
      refine rn_sub hsub ?_
      refine au ?_
      exact rn_ret Try.func37 (.inr (.inr (.inr (.inr ⟨_, _, _, _, rfl, rfl, rfl, rfl⟩)))) ⟨(x, y, s3), hT3, ⟨rfl, hn3, h3⟩, hR3⟩
end
end E
end Go.Proofs.Ytmdjgejahnmfmaf
