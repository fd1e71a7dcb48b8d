/- Several texts in one: LfL, DrI, LfB, LfC, LfD, LfE, LfF, LzN. -/
import Derived.Test.YtmplkogkphmmjafGreatJ08
import Derived.Test.YtmplkogkphmmjafGreatEng
import Derived.Test.YtmplkogkphmmjafGreatJ03
/- Small functions of the laws of package life: StepFault, greatLife. -/
namespace Go.Proofs.YtmplkogkphmmjafGreat
set_option maxRecDepth 20000
set_option maxHeartbeats 4000000
namespace E
open Go.Proofs

theorem stepFault_ret (s : Sp) (w : World) : Ret Tryz.prog 14 [.agg (spC s).toArray] w fun r w' => r = .int .i64 (spFault s) ∧ Keep [] w w' := by
  obtain ⟨kd, N, K, mk⟩ := s
  refine ret_of 34 Tryz.func14 rfl rfl (by simp) ?_
  refine au ?_
  refine pl_op rfl rfl (opTo_boxN (spC (kd, N, K, mk)) rfl rfl rfl ?_)
  intro w1 x1 hx1 hs1 hk1 hb1
  refine au ?_
  refine pl_val _ rfl rfl (val_load1 hT rfl rfl rfl (hb1.cell rfl)) ?_
  unfold spFault
  simp only
  by_cases h1 : kd < 1
  · refine ye ?_
    refine au ?_
    rw [if_pos (.inl h1)]
    exact rn_ret Tryz.func14 (.inl ⟨_, rfl, rfl⟩) ⟨rfl, hk1⟩
  refine nay ?_
  refine au ?_
  refine pl_val _ rfl rfl (val_load1 hT rfl rfl rfl (hb1.cell rfl)) ?_
  by_cases h2 : 3 < kd
  · refine ye ?_
    refine au ?_
    rw [if_pos (.inr h2)]
    exact rn_ret Tryz.func14 (.inl ⟨_, rfl, rfl⟩) ⟨rfl, hk1⟩
  refine nay ?_
  refine au ?_
  rw [if_neg (by omega)]
  refine pl_val _ rfl rfl (val_load1 hT rfl rfl rfl (hb1.cell rfl)) ?_
  by_cases h3 : kd = 2
  · refine nay ?_
    refine au ?_
    refine pl_val _ rfl rfl (val_load1 hT rfl rfl rfl (hb1.cell rfl)) ?_
    refine nay ?_
    refine au ?_
    rw [if_neg (by omega)]
    exact rn_ret Tryz.func14 (.inl ⟨_, rfl, rfl⟩) ⟨rfl, hk1⟩
  refine ye ?_
  refine au ?_
  refine pl_val _ rfl rfl (val_load1 hT rfl rfl rfl (hb1.cell rfl)) ?_
  by_cases h4 : N < 0
  · refine ye ?_
    refine au ?_
    rw [if_pos (.inl ⟨h3, .inl h4⟩)]
    exact rn_ret Tryz.func14 (.inl ⟨_, rfl, rfl⟩) ⟨rfl, hk1⟩
  refine nay ?_
  refine au ?_
  refine pl_val _ rfl rfl (val_load1 hT rfl rfl rfl (hb1.cell rfl)) ?_
  by_cases h5 : 3000 < N
  · refine ye ?_
    refine au ?_
    rw [if_pos (.inl ⟨h3, .inr h5⟩)]
    exact rn_ret Tryz.func14 (.inl ⟨_, rfl, rfl⟩) ⟨rfl, hk1⟩
  refine nay ?_
  refine au ?_
  refine pl_val _ rfl rfl (val_load1 hT rfl rfl rfl (hb1.cell rfl)) ?_
  by_cases h6 : kd = 3
  · refine ye ?_
    refine au ?_
    refine pl_val _ rfl rfl (val_load1 hT rfl rfl rfl (hb1.cell rfl)) ?_
    by_cases h7 : K < 0
    · refine ye ?_
      refine au ?_
      rw [if_pos (.inr ⟨h6, h7⟩)]
      exact rn_ret Tryz.func14 (.inl ⟨_, rfl, rfl⟩) ⟨rfl, hk1⟩
    refine nay ?_
    refine au ?_
    rw [if_neg (by omega)]
    exact rn_ret Tryz.func14 (.inl ⟨_, rfl, rfl⟩) ⟨rfl, hk1⟩
  refine nay ?_
  refine au ?_
  rw [if_neg (by omega)]
  exact rn_ret Tryz.func14 (.inl ⟨_, rfl, rfl⟩) ⟨rfl, hk1⟩
theorem greatLife_ret {F : Nat → Prop} {w : World} {x iv lv : Value} {vs : List VarT} {body : List ST} {inp : List Int} {l : List Sp} (h : ProgV F w x vs body) (hF : In F w) (hi : ∃ a cap, iv = .slice a inp.length cap) (hl : SpV w lv l) :
    Ret Tryz.prog 7 [x, iv, lv] w fun r w' => (∃ g : Bool, r = .bool g ∧ (g = false → vs.length ≤ 30 ∧ (∀ y ∈ vs, y.1.size ≤ 100) ∧ szSs body ≤ 900 ∧ inp.length ≤ 100 ∧ l.length ≤ 60 ∧ nSum l ≤ 6000)) ∧ Keep [] w w' := by
  have hp := h
  obtain ⟨vv, bv, rfl, hv, hb⟩ := h
  obtain ⟨av, capv, rfl⟩ := hv.form
  obtain ⟨ab, capb, rfl⟩ := hb.form
  obtain ⟨ia, icap, rfl⟩ := hi
  obtain ⟨la, lcap, rfl⟩ := hl.form
  refine ret_of 56 Tryz.func7 rfl rfl (by simp) ?_
  refine au ?_
  refine pl_op rfl rfl (opTo_boxN [.slice av vs.length capv, .slice ab body.length capb] rfl rfl rfl ?_)
  intro w1 pb hpb hs1 hk1 hb1
  have hl1 := hl.keep0 hk1
  refine au ?_
  refine rn_ind (fun q σ w' => ∃ i : Nat, i ≤ l.length ∧ i ≤ 200 ∧ q = l.length - i ∧ σ = [(1, .slice ia inp.length icap), (2, .slice la l.length lcap), (3, .pointer (some ⟨pb, 0, none⟩)), (7, .int .i64 (nSum (l.take i) : Nat)), (8, .int .i64 (i : Nat))] ∧ w' = w1) l.length _ ?_ ⟨0, by omega, by omega, by omega, rfl, rfl⟩ ?_
  · exact ⟨rfl, rfl, rfl, rfl, rfl, trivial⟩
  rintro q σ w2 ih ⟨i, hi, hi2, rfl, rfl, rfl⟩
  have hns := nSum_le (l.take i)
  have hlt := List.length_take_le i l
  refine au ?_
  by_cases hil : i < l.length
  · refine ye ?_
    refine au ?_
    by_cases hi200 : i < 200
    · have hxi : l[i]? = some l[i] := List.getElem?_eq_getElem hil
      obtain ⟨b, q, cap, hv', hra⟩ := hl1.at hxi
      cases hv'
      have hsn := nSum_take hxi
      refine ye ?_
      refine au ?_
      refine pl_val _ rfl rfl (val_index i hT rfl rfl rfl rfl rfl hil w2) ?_
      refine au ?_
      refine pl_val _ rfl rfl (val_load1 hT rfl rfl rfl (hra 1 (.int .i64 l[i].2.1) rfl)) ?_
      by_cases hn0 : 0 < l[i].2.1
      · refine ye ?_
        refine au ?_
        refine pl_val _ rfl rfl (val_index i hT rfl rfl rfl rfl rfl hil w2) ?_
        refine au ?_
        refine pl_val _ rfl rfl (val_load1 hT rfl rfl rfl (hra 1 (.int .i64 l[i].2.1) rfl)) ?_
        by_cases hn3 : l[i].2.1 ≤ 3000
        · rw [if_pos ⟨hn0, hn3⟩] at hsn
          refine ye ?_
          refine au ?_
          refine pl_val _ rfl rfl (val_index i hT rfl rfl rfl rfl rfl hil w2) ?_
          refine au ?_
          refine pl_val _ rfl rfl (val_load1 hT rfl rfl rfl (hra 1 (.int .i64 l[i].2.1) rfl)) ?_
          refine pl_num (((nSum (l.take (i + 1)) : Nat) : Int)) rfl rfl rfl rfl rfl (by simp only [ariP]; omega) ?_
          refine au ?_
          refine pl_num (((i + 1 : Nat) : Int)) rfl rfl rfl rfl rfl (by simp only [ariP]; omega) ?_
          refine au ?_
          refine rn_sub ?_ (ih (l.length - (i + 1)) _ w2 (by omega) ⟨i + 1, by omega, by omega, rfl, rfl, rfl⟩)
          exact ⟨rfl, rfl, rfl, rfl, rfl, trivial⟩
        · rw [if_neg (fun hh => hn3 hh.2)] at hsn
          refine nay ?_
          refine au ?_
          refine pl_num (((i + 1 : Nat) : Int)) rfl rfl rfl rfl rfl (by simp only [ariP]; omega) ?_
          refine au ?_
          refine rn_sub ?_ (ih (l.length - (i + 1)) _ w2 (by omega) ⟨i + 1, by omega, by omega, rfl, by rw [hsn, Nat.add_zero], rfl⟩)
          exact ⟨rfl, rfl, rfl, rfl, rfl, trivial⟩
      · rw [if_neg (fun hh => hn0 hh.1)] at hsn
        refine nay ?_
        refine au ?_
        refine pl_num (((i + 1 : Nat) : Int)) rfl rfl rfl rfl rfl (by simp only [ariP]; omega) ?_
        refine au ?_
        refine rn_sub ?_ (ih (l.length - (i + 1)) _ w2 (by omega) ⟨i + 1, by omega, by omega, rfl, by rw [hsn, Nat.add_zero], rfl⟩)
        exact ⟨rfl, rfl, rfl, rfl, rfl, trivial⟩
    · refine nay ?_
      refine au ?_
      refine pl_val _ rfl rfl (val_load [.slice av vs.length capv, .slice ab body.length capb] hT rfl rfl rfl (hb1.range (by rfl))) ?_
      refine pl_op rfl rfl (opTo_call (fst := []) (cap := []) rfl rfl rfl rfl (by decide +kernel) ((great_ret (hp.keep hk1 hF.stays) (hF.keep hk1)).mono ?_))
      rintro r w3 ⟨⟨g, rfl, hg⟩, hk3⟩
      cases g with
      | true =>
        refine au ?_
        exact rn_ret Tryz.func7 (.inl ⟨_, rfl, rfl⟩) ⟨⟨true, rfl, fun h => by cases h⟩, hk1.tr hk3⟩
      | false =>
        refine au ?_
        by_cases h100 : 100 < inp.length
        · refine ye ?_
          refine au ?_
          exact rn_ret Tryz.func7 (.inl ⟨_, rfl, rfl⟩) ⟨⟨true, rfl, fun h => by cases h⟩, hk1.tr hk3⟩
        refine nay ?_
        refine au ?_
        refine ye ?_
        refine au ?_
        exact rn_ret Tryz.func7 (.inl ⟨_, rfl, rfl⟩) ⟨⟨true, rfl, fun h => by cases h⟩, hk1.tr hk3⟩
  · have hie : i = l.length := by omega
    rw [hie, List.take_length] at hns ⊢
    refine nay ?_
    refine au ?_
    refine pl_val _ rfl rfl (val_load [.slice av vs.length capv, .slice ab body.length capb] hT rfl rfl rfl (hb1.range (by rfl))) ?_
    refine pl_op rfl rfl (opTo_call (fst := []) (cap := []) rfl rfl rfl rfl (by decide +kernel) ((great_ret (hp.keep hk1 hF.stays) (hF.keep hk1)).mono ?_))
    rintro r w3 ⟨⟨g, rfl, hg⟩, hk3⟩
    cases g with
    | true =>
      refine au ?_
      exact rn_ret Tryz.func7 (.inl ⟨_, rfl, rfl⟩) ⟨⟨true, rfl, fun h => by cases h⟩, hk1.tr hk3⟩
    | false =>
      obtain ⟨g1, g2, g3⟩ := hg rfl
      refine au ?_
      by_cases h100 : 100 < inp.length
      · refine ye ?_
        refine au ?_
        exact rn_ret Tryz.func7 (.inl ⟨_, rfl, rfl⟩) ⟨⟨true, rfl, fun h => by cases h⟩, hk1.tr hk3⟩
      refine nay ?_
      refine au ?_
      by_cases h60 : 60 < l.length
      · refine ye ?_
        refine au ?_
        exact rn_ret Tryz.func7 (.inl ⟨_, rfl, rfl⟩) ⟨⟨true, rfl, fun h => by cases h⟩, hk1.tr hk3⟩
      refine nay ?_
      refine au ?_
      by_cases h6 : 6000 < nSum l
      · refine ye ?_
        refine au ?_
        exact rn_ret Tryz.func7 (.inl ⟨_, rfl, rfl⟩) ⟨⟨true, rfl, fun h => by cases h⟩, hk1.tr hk3⟩
      refine nay ?_
      refine au ?_
      exact rn_ret Tryz.func7 (.inl ⟨_, rfl, rfl⟩) ⟨⟨false, rfl, fun _ => ⟨g1, g2, g3, by omega, by omega, by omega⟩⟩, hk1.tr hk3⟩
end E
end Go.Proofs.YtmplkogkphmmjafGreat

/- A region that draws its order, by what is true whatever has come up. -/
namespace Go.Proofs.YtmplkogkphmmjafGreat
set_option maxRecDepth 20000
set_option maxHeartbeats 4000000
namespace E

/-- How many have not come up. -/
def cntN : Nat → Nat → Nat
  | 0, _ => 0
  | n + 1, m => cntN n m + (if m.testBit n then 0 else 1)
theorem cntN_same (m i : Nat) : ∀ (n : Nat), n ≤ i → cntN n (m ||| 2 ^ i) = cntN n m
  | 0, _ => rfl
  | n + 1, h => by
    simp only [cntN]
    rw [cntN_same m i n (by omega), Nat.testBit_or, Nat.testBit_two_pow, show decide (i = n) = false by simp; omega, Bool.or_false]
theorem cntN_set (m i : Nat) (hb : m.testBit i = false) : ∀ (n : Nat), i < n → cntN n (m ||| 2 ^ i) + 1 = cntN n m
  | 0, h => by omega
  | n + 1, h => by
    simp only [cntN]
    by_cases e : i = n
    · subst e
      rw [cntN_same m i i (Nat.le_refl _), hb, Nat.testBit_or, Nat.testBit_two_pow]
      simp
    · have := cntN_set m i hb n (by omega)
      rw [Nat.testBit_or, Nat.testBit_two_pow, show decide (i = n) = false by simp [e], Bool.or_false]
      omega
theorem cntN_zero (m : Nat) : ∀ (n : Nat), cntN n m = 0 → ∀ i, i < n → m.testBit i = true
  | 0, _, i, h => by omega
  | n + 1, h, i, hi => by
    simp only [cntN] at h
    by_cases e : i = n
    · subst e
      cases hb : m.testBit i with
      | true => rfl
      | false => rw [hb] at h; simp at h
    · exact cntN_zero m n (by omega) i (by omega)

section
variable {P : Program} {f n : Nat} {k : List Item} {R : Post} {ops : Array Oper} {S : World → Prop} {T : List Nat}
theorem ready_bit {m i : Nat} (h : i ∈ Region.ready .any ops (bits ops.size m)) : i < ops.size ∧ m.testBit i = false ∧ ∃ o, ops[i]? = some o ∧ ∀ e ∈ o.after, Region.binds .any e = true → m.testBit e.on = true := by
  obtain ⟨h1, o, ho, h2⟩ := mem_ready.1 h
  have hi : i < ops.size := by
    rcases Nat.lt_or_ge i ops.size with h | h
    · exact h
    · rw [Array.getElem?_eq_none h] at ho; cases ho
  refine ⟨hi, ?_, o, ho, fun e he hb => ?_⟩
  · simp [bits, hi] at h1
    exact h1
  · have := h2 e he hb
    by_cases hlt : e.on < ops.size
    · simp [bits, hlt] at this
      exact this
    · simp [bits, hlt] at this
/-- None waits for one behind it. -/
def wellOrd (ops : Array Oper) : Bool := (List.range ops.size).all fun j => match ops[j]? with
  | some o => o.after.all fun e => !Region.binds .any e || decide (e.on < j)
  | none => true
theorem ready_all (hw : wellOrd ops = true) {m : Nat} (hr : Region.ready .any ops (bits ops.size m) = []) : ∀ j, j < ops.size → m.testBit j = true := by
  intro j
  induction j using Nat.strongRecOn with
  | ind j ih =>
    intro hj
    cases hb : m.testBit j with
    | true => rfl
    | false =>
      exfalso
      have ho : ops[j]? = some ops[j] := Array.getElem?_eq_getElem hj
      have hin : j ∈ Region.ready .any ops (bits ops.size m) := by
        refine mem_ready.2 ⟨by simp [bits, hj, hb], ops[j], ho, fun e he hbd => ?_⟩
        have h1 := List.all_eq_true.1 hw j (List.mem_range.2 hj)
        rw [ho] at h1
        simp only at h1
        rw [Array.all_eq_true'] at h1
        have h2 := h1 e he
        rw [hbd] at h2
        simp only [Bool.not_true, Bool.false_or, decide_eq_true_eq] at h2
        have h3 := ih e.on h2 (by omega)
        simp [bits, show e.on < ops.size by omega, h3]
      rw [hr] at hin
      cases hin
/-- Whatever has come up I is true; then all that is left is what comes behind. -/
theorem dr_inv (I : Nat → Env → World → Prop)
    (hstep : ∀ m σ w i o, I m σ w → i < ops.size → m.testBit i = false → ops[i]? = some o → (∀ e ∈ o.after, Region.binds .any e = true → m.testBit e.on = true) →
      guardOf ops σ o.guard = some true ∧ dstOk n o.dst = true ∧ OpTo P n σ o w fun v w' => (i ∉ T → S w → S w') ∧ I (m ||| 2 ^ i) (put σ o.dst v) w')
    (hdone : ∀ m σ w, I m σ w → Region.ready .any ops (bits ops.size m) = [] → Rn P f n k R σ w) :
    ∀ (fuel m : Nat) (σ : Env) (w : World), cntN ops.size m ≤ fuel → I m σ w → Dr P f n ops k R S T fuel m σ w := by
  intro fuel
  induction fuel with
  | zero =>
    intro m σ w hc hI a ha hdf hcl
    have hr : Region.ready .any ops (bits ops.size m) = [] := by
      refine List.eq_nil_iff_forall_not_mem.2 fun i hi => ?_
      obtain ⟨h1, h2, _⟩ := ready_bit hi
      rw [cntN_zero m ops.size (by omega) i h1] at h2
      cases h2
    exact ⟨hr, .inl ⟨rfl, hdone m σ w hI hr a ha hdf⟩⟩
  | succ fuel ih =>
    intro m σ w hc hI a ha hdf hcl
    refine ⟨fun hr => .inl ⟨rfl, hdone m σ w hI hr a ha hdf⟩, fun i hi => ?_⟩
    have hc' := hcl.set hi
    obtain ⟨h1, h2, o, ho, h3⟩ := ready_bit hi
    obtain ⟨hg, hd, h⟩ := hstep m σ w i o hI h1 h2 ho h3
    unfold wpOp
    simp only [ho, guardOf_spec ha hg, if_true]
    refine .inl (h a ha _ _ fun v w' hv => ⟨hv.1, ?_⟩)
    rw [bits_set] at hc' ⊢
    exact ih _ _ _ (by have := cntN_set m i h2 ops.size h1; omega) hv.2 _ (ha.put _ v hd) ((put_defers _ _ _).trans hdf) hc'
end
end E
end Go.Proofs.YtmplkogkphmmjafGreat

/- The first look of the laws of package life: the program that counts. -/
namespace Go.Proofs.YtmplkogkphmmjafGreat
set_option maxRecDepth 20000
set_option maxHeartbeats 4000000
namespace E
open Go.Proofs

def nil0 : Value := .slice none 0 0
def cA : List Value := [.int .i64 2, .int .i64 0, .int .i64 0, .slice none 0 0]
def cN (n : Int) : List Value := [.int .i64 1, .int .i64 0, .int .i64 n, .slice none 0 0]
def cZ : List Value := [.int .i64 0, .int .i64 0, .int .i64 0, .slice none 0 0]
def cE (op : Int) (b : Nat) : List Value := [.int .i64 op, .int .i64 0, .int .i64 0, .slice (some ⟨b, 0, none⟩) 2 2]
def c1 (b : Nat) : List Value := scells 1 0 (cE 4 b) cZ (.slice none 0 0) (.slice none 0 0)
def c2 : List Value := scells 3 0 cA cZ (.slice none 0 0) (.slice none 0 0)
def c3 : List Value := scells 7 0 cZ cZ (.slice none 0 0) (.slice none 0 0)
def c4 (e c : Nat) : List Value := scells 5 0 (cE 7 e) cZ (.slice (some ⟨c, 0, none⟩) 3 3) (.slice none 0 0)
def cV : List Value := [.string ⟨#[97]⟩, .int .i64 1]
theorem built_cV : Tryz.prog.built 67 [(0, .string ⟨#[97]⟩), (1, .int .i64 1)] = some cV.toArray := by kernel_rfl
theorem built_cA : Tryz.prog.built 94 [(0, .int .i64 2)] = some cA.toArray := by kernel_rfl
theorem built_cN (n : Int) : Tryz.prog.built 94 [(0, .int .i64 1), (2, .int .i64 n)] = some (cN n).toArray := by kernel_rfl
theorem built_cE7 (b : Nat) : Tryz.prog.built 94 [(0, .int .i64 7), (3, .slice (some ⟨b, 0, none⟩) 2 2)] = some (cE 7 b).toArray := by kernel_rfl
theorem built_cE4 (b : Nat) : Tryz.prog.built 94 [(0, .int .i64 4), (3, .slice (some ⟨b, 0, none⟩) 2 2)] = some (cE 4 b).toArray := by kernel_rfl
theorem built_c1 (b : Nat) : Tryz.prog.built 97 [(0, .int .i64 1), (2, .agg (cE 4 b).toArray)] = some (c1 b).toArray := by kernel_rfl
theorem built_c2 : Tryz.prog.built 97 [(0, .int .i64 3), (2, .agg cA.toArray)] = some c2.toArray := by kernel_rfl
theorem built_c3 : Tryz.prog.built 97 [(0, .int .i64 7)] = some c3.toArray := by kernel_rfl
theorem built_c4 (e c : Nat) : Tryz.prog.built 97 [(0, .int .i64 5), (2, .agg (cE 7 e).toArray), (4, .slice (some ⟨c, 0, none⟩) 3 3)] = some (c4 e c).toArray := by kernel_rfl
theorem built_cP (a d : Nat) : Tryz.prog.built 25 [(0, .slice (some ⟨a, 0, none⟩) 1 1), (1, .slice (some ⟨d, 0, none⟩) 1 1)] = some [Value.slice (some ⟨a, 0, none⟩) 1 1, .slice (some ⟨d, 0, none⟩) 1 1].toArray := by kernel_rfl
theorem slice_cV : sliceCells Tryz.prog 22 1 [(0, .agg cV.toArray)] = some (67, cV.toArray) := by kernel_rfl
theorem slice_cE (n : Int) : sliceCells Tryz.prog 92 2 [(0, .agg cA.toArray), (1, .agg (cN n).toArray)] = some (94, (cA ++ cN n).toArray) := by kernel_rfl
theorem slice_c3 (b : Nat) : sliceCells Tryz.prog 23 3 [(0, .agg (c1 b).toArray), (1, .agg c2.toArray), (2, .agg c3.toArray)] = some (97, (c1 b ++ c2 ++ c3).toArray) := by kernel_rfl
theorem slice_c4 (e c : Nat) : sliceCells Tryz.prog 23 1 [(0, .agg (c4 e c).toArray)] = some (97, (c4 e c).toArray) := by kernel_rfl
theorem zero_cE : ((Tryz.prog.info? 94).bind (·.zero)).map (·.cells) = some cZ.toArray := by kernel_rfl
theorem zero_cP : ((Tryz.prog.info? 25).bind (·.zero)).map (·.cells) = some [Value.slice none 0 0, .slice none 0 0].toArray := by kernel_rfl
theorem size_cE : sizeOk Tryz.prog 94 4 = true := by kernel_rfl
theorem size_cP : sizeOk Tryz.prog 25 2 = true := by kernel_rfl
theorem one_cE (a b c : Int) (o : Option Addr) (n k : Nat) : ∀ u ∈ [Value.int .i64 a, .int .i64 b, .int .i64 c, .slice o n k], u.oneCell' = true := by
  intro u hu
  simp only [List.mem_cons, List.not_mem_nil, or_false] at hu
  rcases hu with rfl | rfl | rfl | rfl <;> rfl
theorem one_cP (a b : Option Addr) (n k m d : Nat) : ∀ u ∈ [Value.slice a n k, .slice b m d], u.oneCell' = true := by
  intro u hu
  simp only [List.mem_cons, List.not_mem_nil, or_false] at hu
  rcases hu with rfl | rfl <;> rfl

theorem counter1_ret (n : Int) (w : World) : Ret Tryz.prog 44 [.int .i64 n] w fun r w' => r = .agg (cN n).toArray ∧ Keep [] w w' := by
  refine ret_of 5 Tryz.func44 rfl rfl (by simp) ?_
  refine au ?_
  refine pl_op rfl rfl (opTo_allocN _ rfl zero_cE ?_)
  intro w1 x1 hx1 hs1 hk1 hb1
  refine au ?_
  refine pl_val _ rfl rfl (val_build _ rfl rfl (built_cN n) w1) ?_
  refine pl_op rfl rfl (opTo_storeN (cN n) rfl rfl rfl rfl size_cE hb1 (by simp [cZ, cN]) (one_cE _ _ _ _ _ _) ?_)
  intro w2 hs2 hk2 hb2
  rw [splice_whole (by rfl)] at hb2
  refine au ?_
  exact rn_ret Tryz.func44 (.inr (.inr (.inl ⟨_, _, _, rfl, rfl, blk_loadVar hT hb2 rfl⟩))) ⟨rfl, hk1.trB hk2 (by omega)⟩

/-- What each part of the program is, whatever has come up ahead of it. -/
def cQ : Nat → Value → World → Prop
  | 0, v, _ => v = .agg cV.toArray
  | 1, v, w => ∃ a, v = .slice (some ⟨a, 0, none⟩) 1 1 ∧ Blk w a cV 67
  | 2, v, _ => v = .agg cA.toArray
  | 3, v, _ => v = .func (.func 44) #[] #[]
  | 4, v, _ => v = .agg (cN 3).toArray
  | 5, v, w => ∃ e, v = .slice (some ⟨e, 0, none⟩) 2 2 ∧ Blk w e (cA ++ cN 3) 94
  | 6, v, w => ∃ e, v = .agg (cE 7 e).toArray ∧ Blk w e (cA ++ cN 3) 94
  | 7, v, _ => v = .agg cA.toArray
  | 8, v, _ => v = .func (.func 44) #[] #[]
  | 9, v, _ => v = .agg (cN 1).toArray
  | 10, v, w => ∃ b, v = .slice (some ⟨b, 0, none⟩) 2 2 ∧ Blk w b (cA ++ cN 1) 94
  | 11, v, w => ∃ b, v = .agg (cE 4 b).toArray ∧ Blk w b (cA ++ cN 1) 94
  | 12, v, w => ∃ b, v = .agg (c1 b).toArray ∧ Blk w b (cA ++ cN 1) 94
  | 13, v, _ => v = .agg cA.toArray
  | 14, v, _ => v = .agg c2.toArray
  | 15, v, _ => v = .agg c3.toArray
  | 16, v, w => ∃ b c, v = .slice (some ⟨c, 0, none⟩) 3 3 ∧ Blk w b (cA ++ cN 1) 94 ∧ Blk w c (c1 b ++ c2 ++ c3) 97
  | 17, v, w => ∃ b c e, v = .agg (c4 e c).toArray ∧ Blk w e (cA ++ cN 3) 94 ∧ Blk w b (cA ++ cN 1) 94 ∧ Blk w c (c1 b ++ c2 ++ c3) 97
  | 18, v, w => ∃ b c e d, v = .slice (some ⟨d, 0, none⟩) 1 1 ∧ Blk w e (cA ++ cN 3) 94 ∧ Blk w b (cA ++ cN 1) 94 ∧ Blk w c (c1 b ++ c2 ++ c3) 97 ∧ Blk w d (c4 e c) 97
  | 19, v, w => ∃ a b c e d, v = .agg [Value.slice (some ⟨a, 0, none⟩) 1 1, .slice (some ⟨d, 0, none⟩) 1 1].toArray ∧ Blk w a cV 67 ∧ Blk w e (cA ++ cN 3) 94 ∧ Blk w b (cA ++ cN 1) 94 ∧ Blk w c (c1 b ++ c2 ++ c3) 97 ∧ Blk w d (c4 e c) 97
  | _, _, _ => False
theorem cQ_keep {w w' : World} (hk : Keep [] w w') : ∀ (j : Nat) (v : Value), cQ j v w → cQ j v w'
  | 0, _, h | 2, _, h | 3, _, h | 4, _, h | 7, _, h | 8, _, h | 9, _, h | 13, _, h | 14, _, h | 15, _, h => h
  | 1, _, ⟨a, h1, h2⟩ | 5, _, ⟨a, h1, h2⟩ | 6, _, ⟨a, h1, h2⟩ | 10, _, ⟨a, h1, h2⟩ | 11, _, ⟨a, h1, h2⟩ | 12, _, ⟨a, h1, h2⟩ => ⟨a, h1, hk.blk h2 (by simp)⟩
  | 16, _, ⟨b, c, h1, h2, h3⟩ => ⟨b, c, h1, hk.blk h2 (by simp), hk.blk h3 (by simp)⟩
  | 17, _, ⟨b, c, e, h1, h2, h3, h4⟩ => ⟨b, c, e, h1, hk.blk h2 (by simp), hk.blk h3 (by simp), hk.blk h4 (by simp)⟩
  | 18, _, ⟨b, c, e, d, h1, h2, h3, h4, h5⟩ => ⟨b, c, e, d, h1, hk.blk h2 (by simp), hk.blk h3 (by simp), hk.blk h4 (by simp), hk.blk h5 (by simp)⟩
  | 19, _, ⟨a, b, c, e, d, h1, h2, h3, h4, h5, h6⟩ => ⟨a, b, c, e, d, h1, hk.blk h2 (by simp), hk.blk h3 (by simp), hk.blk h4 (by simp), hk.blk h5 (by simp), hk.blk h6 (by simp)⟩
  | _ + 20, _, h => h.elim
/-- Which slot each of them lies in. -/
def cT : List (Nat × Nat) := [(0, 4), (1, 5), (2, 6), (3, 7), (4, 8), (5, 9), (6, 10), (7, 11), (8, 12), (9, 13), (10, 14), (11, 15), (12, 16), (13, 17), (14, 18), (15, 19), (16, 20), (17, 21), (18, 22), (19, 23)]
theorem cT_inj : ∀ p ∈ cT, ∀ q ∈ cT, p.1 = q.1 ↔ p.2 = q.2 := by decide
def cB : List ST := [.mk 5 0 (.mk 7 0 0 [.mk 2 0 0 [], .mk 1 0 3 []]) zeroT [.mk 1 0 (.mk 4 0 0 [.mk 2 0 0 [], .mk 1 0 1 []]) zeroT [] [], .mk 3 0 (.mk 2 0 0 []) zeroT [] [], .mk 7 0 zeroT zeroT [] []] []]
def cVs : List VarT := [(⟨#[97]⟩, 1)]
theorem cProg {w : World} {a b c e d : Nat} (h2 : Blk w a cV 67) (h3 : Blk w e (cA ++ cN 3) 94) (h4 : Blk w b (cA ++ cN 1) 94) (h5 : Blk w c (c1 b ++ c2 ++ c3) 97) (h6 : Blk w d (c4 e c) 97) :
    ProgV (fun k => k < w.heap.size) w (.agg #[.slice (some ⟨a, 0, none⟩) 1 1, .slice (some ⟨d, 0, none⟩) 1 1]) cVs cB := by
  have hA : ExprV (fun k => k < w.heap.size) w cA (.mk 2 0 0 []) := ExprV.of ExprsV.nil
  have hZ : ExprV (fun k => k < w.heap.size) w cZ zeroT := ExprV.of ExprsV.nil
  have hN : ∀ n, ExprV (fun k => k < w.heap.size) w (cN n) (.mk 1 0 n []) := fun n => ExprV.of ExprsV.nil
  have hE : ∀ {b : Nat} {n : Int}, Blk w b (cA ++ cN n) 94 → ExprsV (fun k => k < w.heap.size) w (.slice (some ⟨b, 0, none⟩) 2 2) [.mk 2 0 0 [], .mk 1 0 n []] := fun {b n} hb => by
    refine ⟨_, 2, fun i => if i = 0 then cA else cN n, rfl, fun _ => ⟨b, 0, rfl, hb.lt, fun i hi => ?_⟩, fun i hi => ?_⟩
    · have hi : i < 2 := hi
      rcases (by omega : i = 0 ∨ i = 1) with rfl | rfl
      · exact hb.range rfl
      · exact hb.range rfl
    · have hi : i < 2 := hi
      rcases (by omega : i = 0 ∨ i = 1) with rfl | rfl
      · exact hA
      · exact hN n
  have hS3 : StmtsV (fun k => k < w.heap.size) w (.slice (some ⟨c, 0, none⟩) 3 3) [.mk 1 0 (.mk 4 0 0 [.mk 2 0 0 [], .mk 1 0 1 []]) zeroT [] [], .mk 3 0 (.mk 2 0 0 []) zeroT [] [], .mk 7 0 zeroT zeroT [] []] := by
    refine ⟨_, 3, fun i => if i = 0 then c1 b else if i = 1 then c2 else c3, rfl, fun _ => ⟨c, 0, rfl, h5.lt, fun i hi => ?_⟩, fun i hi => ?_⟩
    · have hi : i < 3 := hi
      rcases (by omega : i = 0 ∨ i = 1 ∨ i = 2) with rfl | rfl | rfl
      · exact h5.range rfl
      · exact h5.range rfl
      · exact h5.range rfl
    · have hi : i < 3 := hi
      rcases (by omega : i = 0 ∨ i = 1 ∨ i = 2) with rfl | rfl | rfl
      · exact StmtV.of (ExprV.of (hE h4)) hZ StmtsV.nil StmtsV.nil
      · exact StmtV.of hA hZ StmtsV.nil StmtsV.nil
      · exact StmtV.of hZ hZ StmtsV.nil StmtsV.nil
  refine ⟨_, _, rfl, ⟨_, 1, rfl, Nat.le_refl _, fun _ => ⟨a, 0, rfl, h2.lt, fun i hi => ?_⟩⟩, ⟨_, 1, fun _ => c4 e c, rfl, fun _ => ⟨d, 0, rfl, h6.lt, fun i hi => ?_⟩, fun i hi => ?_⟩⟩
  · have hi : i < 1 := hi
    obtain rfl : i = 0 := by omega
    exact h2.range rfl
  · have hi : i < 1 := hi
    obtain rfl : i = 0 := by omega
    exact h6.range rfl
  · have hi : i < 1 := hi
    obtain rfl : i = 0 := by omega
    exact StmtV.of (ExprV.of (hE h3)) hZ hS3 StmtsV.nil
end E
end Go.Proofs.YtmplkogkphmmjafGreat

/- The first look of the laws of package life: the program that counts, made; a life of it. -/
namespace Go.Proofs.YtmplkogkphmmjafGreat
set_option maxRecDepth 20000
set_option maxHeartbeats 4000000
namespace E
open Go.Proofs

theorem opTo_mono {P : Program} {n : Nat} {σ : Env} {o : Oper} {w : World} {K K' : Value → World → Prop} (h : OpTo P n σ o w K) (hk : ∀ v w', K v w' → K' v w') : OpTo P n σ o w K' := fun a ha next Q hn => h a ha next Q fun v w' hv => hn v w' (hk v w' hv)
theorem dep_bit {o : Oper} {m j : Nat} (haf : ∀ e ∈ o.after, Region.binds .any e = true → m.testBit e.on = true) (h : (o.after.any fun e => e.on == j && Region.binds .any e) = true) : m.testBit j = true := by
  rw [Array.any_eq_true'] at h
  obtain ⟨e, he, h2⟩ := h
  simp only [Bool.and_eq_true, beq_iff_eq] at h2
  rw [← h2.1]
  exact haf e he h2.2
theorem counter_ret (w : World) : Ret Tryz.prog 20 [] w fun r w' => (∃ a d, r = .agg #[.slice (some ⟨a, 0, none⟩) 1 1, .slice (some ⟨d, 0, none⟩) 1 1] ∧ ProgV (fun k => k < w'.heap.size) w' r cVs cB) ∧ Keep [] w w' := by
  refine ret_of 24 Tryz.func20 rfl rfl (by simp) ?_
  refine au ?_
  refine pl_op rfl rfl (opTo_allocN _ rfl zero_cP ?_)
  intro w1 x0 hx0 hs1 hk1 hb1
  refine au ?_
  refine pl_val _ rfl rfl (val_build _ rfl rfl built_cA w1) ?_
  refine pl_op rfl rfl (opTo_allocN _ rfl zero_cE ?_)
  intro w2 x2 hx2 hs2 hk2 hb2
  refine pl_op rfl rfl (opTo_storeN cA rfl rfl rfl rfl size_cE hb2 (by simp [cZ, cA]) (one_cE _ _ _ _ _ _) ?_)
  intro w3 hs3 hk3 hb3
  rw [splice_whole (by rfl)] at hb3
  have hk13 : Keep [] w1 w3 := hk2.trB hk3 (by omega)
  have hz3 := hk13.blk hb1 (by simp)
  refine au ?_
  refine rn_draw (fun _ => True) [] hMix ?_
  have hS : Keep [] w3 w3.drew := (Keep.refl _ _).drew
  have hb4 := hS.blk hb3 (by simp)
  have hz4 := hS.blk hz3 (by simp)
  generalize w3.drew = w4 at *
  refine dr_inv (fun m σ w' => Keep [x0] w4 w' ∧ look σ 0 = some (.pointer (some ⟨x0, 0, none⟩)) ∧ look σ 1 = some (.func (.func 44) #[] #[]) ∧ look σ 2 = some (.pointer (some ⟨x2, 0, none⟩)) ∧ Blk w' x2 cA 94 ∧
    ((m.testBit 20 = false ∧ Blk w' x0 [.slice none 0 0, .slice none 0 0] 25 ∧ ∀ p ∈ cT, m.testBit p.1 = true → ∃ v, look σ p.2 = some v ∧ cQ p.1 v w') ∨
     ((∀ j, j < 21 → m.testBit j = true) ∧ ∃ a b c e d, Blk w' x0 [.slice (some ⟨a, 0, none⟩) 1 1, .slice (some ⟨d, 0, none⟩) 1 1] 25 ∧ Blk w' a cV 67 ∧ Blk w' e (cA ++ cN 3) 94 ∧ Blk w' b (cA ++ cN 1) 94 ∧ Blk w' c (c1 b ++ c2 ++ c3) 97 ∧ Blk w' d (c4 e c) 97))) ?_ ?_ _ _ _ _ (by decide +kernel) ⟨Keep.refl _ _, rfl, rfl, rfl, hb4, .inl ⟨rfl, hz4, fun p hp hbit => by simp at hbit⟩⟩
  · rintro m σ w' i o ⟨hk, l0, l1, l2, hx, hcase⟩ hi hbit ho haf
    have hi : i < 21 := hi
    rcases hcase with ⟨h20, hx0', hQ⟩ | ⟨hall, _⟩
    rotate_left
    · rw [hall i hi] at hbit
      cases hbit
    have dep : ∀ p ∈ cT, (o.after.any fun e => e.on == p.1 && Region.binds .any e) = true → ∃ v, look σ p.2 = some v ∧ cQ p.1 v w' := fun p hp h => hQ p hp (dep_bit haf h)
    have fin : ∀ t, (i, t) ∈ cT → o.dst = some t → OpTo Tryz.prog 24 σ o w' (fun v w'' => Keep [] w' w'' ∧ cQ i v w'') → OpTo Tryz.prog 24 σ o w' fun v w'' => (i ∉ [] → True → True) ∧ (Keep [x0] w4 w'' ∧ look (put σ o.dst v) 0 = some (.pointer (some ⟨x0, 0, none⟩)) ∧ look (put σ o.dst v) 1 = some (.func (.func 44) #[] #[]) ∧ look (put σ o.dst v) 2 = some (.pointer (some ⟨x2, 0, none⟩)) ∧ Blk w'' x2 cA 94 ∧
        (((m ||| 2 ^ i).testBit 20 = false ∧ Blk w'' x0 [.slice none 0 0, .slice none 0 0] 25 ∧ ∀ p ∈ cT, (m ||| 2 ^ i).testBit p.1 = true → ∃ v', look (put σ o.dst v) p.2 = some v' ∧ cQ p.1 v' w'') ∨
         ((∀ j, j < 21 → (m ||| 2 ^ i).testBit j = true) ∧ ∃ a b c e d, Blk w'' x0 [.slice (some ⟨a, 0, none⟩) 1 1, .slice (some ⟨d, 0, none⟩) 1 1] 25 ∧ Blk w'' a cV 67 ∧ Blk w'' e (cA ++ cN 3) 94 ∧ Blk w'' b (cA ++ cN 1) 94 ∧ Blk w'' c (c1 b ++ c2 ++ c3) 97 ∧ Blk w'' d (c4 e c) 97))) := fun t ht hd h => by
      have ht4 : 4 ≤ t ∧ i < 20 := by
        have : ∀ p ∈ cT, 4 ≤ p.2 ∧ p.1 < 20 := by decide
        exact this _ ht
      refine opTo_mono h fun v w'' ⟨hk', hq⟩ => ⟨fun _ _ => trivial, hk.tr0 hk', ?_⟩
      rw [hd]
      have hl : ∀ s, s ≠ t → look (put σ (some t) v) s = look σ s := fun s hs => by
        show look ((t, v) :: σ) s = _
        rw [look_cons, if_neg (fun e => hs e.symm)]
      refine ⟨(hl 0 (by omega)).trans l0, (hl 1 (by omega)).trans l1, (hl 2 (by omega)).trans l2, hk'.blk hx (by simp), .inl ⟨?_, hk'.blk hx0' (by simp), fun p hp hpb => ?_⟩⟩
      · rw [Nat.testBit_or, h20, Nat.testBit_two_pow]
        simp
        omega
      · by_cases e : p.1 = i
        · have e2 : p.2 = t := (cT_inj p hp (i, t) ht).1 e
          rw [e, e2]
          exact ⟨v, by show look ((t, v) :: σ) t = _; rw [look_cons, if_pos rfl], hq⟩
        · have e2 : p.2 ≠ t := fun e2 => e ((cT_inj p hp (i, t) ht).2 e2)
          rw [Nat.testBit_or, Nat.testBit_two_pow, show decide (i = p.1) = false by simp; omega, Bool.or_false] at hpb
          obtain ⟨v', h1, h2⟩ := hQ p hp hpb
          exact ⟨v', (hl _ e2).trans h1, cQ_keep hk' _ _ h2⟩
    rcases (by omega : i = 0 ∨ i = 1 ∨ i = 2 ∨ i = 3 ∨ i = 4 ∨ i = 5 ∨ i = 6 ∨ i = 7 ∨ i = 8 ∨ i = 9 ∨ i = 10 ∨ i = 11 ∨ i = 12 ∨ i = 13 ∨ i = 14 ∨ i = 15 ∨ i = 16 ∨ i = 17 ∨ i = 18 ∨ i = 19 ∨ i = 20) with rfl | rfl | rfl | rfl | rfl | rfl | rfl | rfl | rfl | rfl | rfl | rfl | rfl | rfl | rfl | rfl | rfl | rfl | rfl | rfl | rfl
    · obtain rfl := Option.some.inj ho
      refine ⟨rfl, rfl, fin 4 (by decide) rfl ?_⟩
      exact (val_build _ rfl rfl built_cV w').opTo ⟨Keep.refl _ _, rfl⟩
    · obtain rfl := Option.some.inj ho
      obtain ⟨v0, e0, rfl⟩ := dep (0, 4) (by decide) (by decide +kernel)
      refine ⟨rfl, rfl, fin 5 (by decide) rfl ?_⟩
      exact opTo_sliceN _ _ rfl (by simp [evParts, ev, e0]) slice_cV fun w1 b _ _ hk1 hbk => ⟨hk1, b, rfl, hbk⟩
    · obtain rfl := Option.some.inj ho
      refine ⟨rfl, rfl, fin 6 (by decide) rfl ?_⟩
      exact Val.opTo (v := .agg cA.toArray) (val_load cA hT rfl l2 rfl (hx.range rfl)) ⟨Keep.refl _ _, rfl⟩
    · obtain rfl := Option.some.inj ho
      refine ⟨rfl, rfl, fin 7 (by decide) rfl ?_⟩
      refine Val.opTo (v := .func (.func 44) #[] #[]) (val_pure hT ?_ w') ⟨Keep.refl _ _, rfl⟩
      exact l1
    · obtain rfl := Option.some.inj ho
      obtain ⟨v3, e3, rfl⟩ := dep (3, 7) (by decide) (by decide +kernel)
      refine ⟨rfl, rfl, fin 8 (by decide) rfl ?_⟩
      exact opTo_call (fst := []) (cap := []) rfl rfl e3 rfl (by decide +kernel) ((counter1_ret 3 w').mono fun v w'' h => ⟨h.2, h.1⟩)
    · obtain rfl := Option.some.inj ho
      obtain ⟨v2, e2, rfl⟩ := dep (2, 6) (by decide) (by decide +kernel)
      obtain ⟨v4, e4, rfl⟩ := dep (4, 8) (by decide) (by decide +kernel)
      refine ⟨rfl, rfl, fin 9 (by decide) rfl ?_⟩
      exact opTo_sliceN _ _ rfl (by simp [evParts, ev, e2, e4]) (slice_cE 3) fun w1 b _ _ hk1 hbk => ⟨hk1, b, rfl, hbk⟩
    · obtain rfl := Option.some.inj ho
      obtain ⟨v5, e5, ⟨b5, rfl, h5⟩⟩ := dep (5, 9) (by decide) (by decide +kernel)
      refine ⟨rfl, rfl, fin 10 (by decide) rfl ?_⟩
      exact (val_build _ rfl (by simp [evParts, ev, e5]) (built_cE7 b5) w').opTo ⟨Keep.refl _ _, b5, rfl, h5⟩
    · obtain rfl := Option.some.inj ho
      refine ⟨rfl, rfl, fin 11 (by decide) rfl ?_⟩
      exact Val.opTo (v := .agg cA.toArray) (val_load cA hT rfl l2 rfl (hx.range rfl)) ⟨Keep.refl _ _, rfl⟩
    · obtain rfl := Option.some.inj ho
      refine ⟨rfl, rfl, fin 12 (by decide) rfl ?_⟩
      refine Val.opTo (v := .func (.func 44) #[] #[]) (val_pure hT ?_ w') ⟨Keep.refl _ _, rfl⟩
      exact l1
    · obtain rfl := Option.some.inj ho
      obtain ⟨v8, e8, rfl⟩ := dep (8, 12) (by decide) (by decide +kernel)
      refine ⟨rfl, rfl, fin 13 (by decide) rfl ?_⟩
      exact opTo_call (fst := []) (cap := []) rfl rfl e8 rfl (by decide +kernel) ((counter1_ret 1 w').mono fun v w'' h => ⟨h.2, h.1⟩)
    · obtain rfl := Option.some.inj ho
      obtain ⟨v7, e7, rfl⟩ := dep (7, 11) (by decide) (by decide +kernel)
      obtain ⟨v9, e9, rfl⟩ := dep (9, 13) (by decide) (by decide +kernel)
      refine ⟨rfl, rfl, fin 14 (by decide) rfl ?_⟩
      exact opTo_sliceN _ _ rfl (by simp [evParts, ev, e7, e9]) (slice_cE 1) fun w1 b _ _ hk1 hbk => ⟨hk1, b, rfl, hbk⟩
    · obtain rfl := Option.some.inj ho
      obtain ⟨v10, e10, ⟨b5, rfl, h5⟩⟩ := dep (10, 14) (by decide) (by decide +kernel)
      refine ⟨rfl, rfl, fin 15 (by decide) rfl ?_⟩
      exact (val_build _ rfl (by simp [evParts, ev, e10]) (built_cE4 b5) w').opTo ⟨Keep.refl _ _, b5, rfl, h5⟩
    · obtain rfl := Option.some.inj ho
      obtain ⟨v11, e11, ⟨b5, rfl, h5⟩⟩ := dep (11, 15) (by decide) (by decide +kernel)
      refine ⟨rfl, rfl, fin 16 (by decide) rfl ?_⟩
      exact (val_build _ rfl (by simp [evParts, ev, e11]) (built_c1 b5) w').opTo ⟨Keep.refl _ _, b5, rfl, h5⟩
    · obtain rfl := Option.some.inj ho
      refine ⟨rfl, rfl, fin 17 (by decide) rfl ?_⟩
      exact Val.opTo (v := .agg cA.toArray) (val_load cA hT rfl l2 rfl (hx.range rfl)) ⟨Keep.refl _ _, rfl⟩
    · obtain rfl := Option.some.inj ho
      obtain ⟨v13, e13, rfl⟩ := dep (13, 17) (by decide) (by decide +kernel)
      refine ⟨rfl, rfl, fin 18 (by decide) rfl ?_⟩
      exact (val_build _ rfl (by simp [evParts, ev, e13]) built_c2 w').opTo ⟨Keep.refl _ _, rfl⟩
    · obtain rfl := Option.some.inj ho
      refine ⟨rfl, rfl, fin 19 (by decide) rfl ?_⟩
      exact (val_build _ rfl rfl built_c3 w').opTo ⟨Keep.refl _ _, rfl⟩
    · obtain rfl := Option.some.inj ho
      obtain ⟨v12, e12, ⟨b5, rfl, h5⟩⟩ := dep (12, 16) (by decide) (by decide +kernel)
      obtain ⟨v14, e14, rfl⟩ := dep (14, 18) (by decide) (by decide +kernel)
      obtain ⟨v15, e15, rfl⟩ := dep (15, 19) (by decide) (by decide +kernel)
      refine ⟨rfl, rfl, fin 20 (by decide) rfl ?_⟩
      exact opTo_sliceN _ _ rfl (by simp [evParts, ev, e12, e14, e15]) (slice_c3 b5) fun w1 c _ _ hk1 hbk => ⟨hk1, b5, c, rfl, hk1.blk h5 (by simp), hbk⟩
    · obtain rfl := Option.some.inj ho
      obtain ⟨v6, e6, ⟨b6, rfl, h6⟩⟩ := dep (6, 10) (by decide) (by decide +kernel)
      obtain ⟨v16, e16, ⟨b, c, rfl, h7, h8⟩⟩ := dep (16, 20) (by decide) (by decide +kernel)
      refine ⟨rfl, rfl, fin 21 (by decide) rfl ?_⟩
      exact (val_build _ rfl (by simp [evParts, ev, e6, e16]) (built_c4 b6 c) w').opTo ⟨Keep.refl _ _, b, c, b6, rfl, h6, h7, h8⟩
    · obtain rfl := Option.some.inj ho
      obtain ⟨v17, e17, ⟨b, c, e, rfl, h6, h7, h8⟩⟩ := dep (17, 21) (by decide) (by decide +kernel)
      refine ⟨rfl, rfl, fin 22 (by decide) rfl ?_⟩
      exact opTo_sliceN _ _ rfl (by simp [evParts, ev, e17]) (slice_c4 e c) fun w1 d _ _ hk1 hbk => ⟨hk1, b, c, e, d, rfl, hk1.blk h6 (by simp), hk1.blk h7 (by simp), hk1.blk h8 (by simp), hbk⟩
    · obtain rfl := Option.some.inj ho
      obtain ⟨v1, e1, ⟨a, rfl, h5⟩⟩ := dep (1, 5) (by decide) (by decide +kernel)
      obtain ⟨v18, e18, ⟨b, c, e, d, rfl, h6, h7, h8, h9⟩⟩ := dep (18, 22) (by decide) (by decide +kernel)
      refine ⟨rfl, rfl, fin 23 (by decide) rfl ?_⟩
      exact (val_build _ rfl (by simp [evParts, ev, e1, e18]) (built_cP a d) w').opTo ⟨Keep.refl _ _, a, b, c, e, d, rfl, h5, h6, h7, h8, h9⟩
    · obtain rfl := Option.some.inj ho
      obtain ⟨v19, e19, a, b, c, e, d, rfl, h5, h6, h7, h8, h9⟩ := dep (19, 23) (by decide) (by decide +kernel)
      have hall : ∀ j, j < 20 → m.testBit j = true := fun j hj => by
        rcases (by omega : j = 0 ∨ j = 1 ∨ j = 2 ∨ j = 3 ∨ j = 4 ∨ j = 5 ∨ j = 6 ∨ j = 7 ∨ j = 8 ∨ j = 9 ∨ j = 10 ∨ j = 11 ∨ j = 12 ∨ j = 13 ∨ j = 14 ∨ j = 15 ∨ j = 16 ∨ j = 17 ∨ j = 18 ∨ j = 19) with rfl | rfl | rfl | rfl | rfl | rfl | rfl | rfl | rfl | rfl | rfl | rfl | rfl | rfl | rfl | rfl | rfl | rfl | rfl | rfl <;> exact dep_bit haf (by decide +kernel)
      refine ⟨rfl, rfl, opTo_storeN [.slice (some ⟨a, 0, none⟩) 1 1, .slice (some ⟨d, 0, none⟩) 1 1] rfl l0 e19 rfl size_cP hx0' (by simp) (one_cP _ _ _ _ _ _) ?_⟩
      intro w5 hs5 hk5 hb5
      rw [splice_whole (by rfl)] at hb5
      refine ⟨fun _ _ => trivial, hk.tr hk5, l0, l1, l2, hk5.blk hx (by simp; exact Blk.ne hx hx0' (by decide)), .inr ⟨fun j hj => ?_, a, b, c, e, d, hb5, hk5.blk h5 (by simp; exact Blk.ne h5 hx0' (by decide)), hk5.blk h6 (by simp; exact Blk.ne h6 hx0' (by decide)), hk5.blk h7 (by simp; exact Blk.ne h7 hx0' (by decide)), hk5.blk h8 (by simp; exact Blk.ne h8 hx0' (by decide)), hk5.blk h9 (by simp; exact Blk.ne h9 hx0' (by decide))⟩⟩
      rw [Nat.testBit_or, Nat.testBit_two_pow]
      by_cases e20 : j = 20
      · subst e20; simp
      · rw [hall j (by omega)]; rfl
  · rintro m σ w5 ⟨hk, l0, l1, l2, hx, hcase⟩ hr
    rcases hcase with ⟨h20, _, hQ⟩ | ⟨hall, a, b, c, e, d, h0, h5, h6, h7, h8, h9⟩
    · exfalso
      have := ready_all (by decide +kernel) hr 20 (by decide)
      rw [h20] at this
      cases this
    · have hkw : Keep [] w w5 := ((hk1.tr hk13).tr hS).trB hk (by omega)
      refine rn_ret Tryz.func20 (.inr (.inr (.inl ⟨0, _, _, rfl, l0, blk_loadVar hT h0 rfl⟩))) ⟨⟨a, d, rfl, cProg h5 h6 h7 h8 h9⟩, hkw⟩
end E
end Go.Proofs.YtmplkogkphmmjafGreat

/- The first look of the laws of package life. -/
namespace Go.Proofs.YtmplkogkphmmjafGreat
set_option maxRecDepth 20000
set_option maxHeartbeats 4000000
namespace E
open Go.Proofs

def bL : List Sp := [(3, 99, 2, 0), (1, 20, 0, 0), (2, 0, 0, 0), (3, 99, 1, 1)]
theorem b_run : runF cVs cB [] bL 99 = ⟨0, [1, 2, 3], [3], 0, 0⟩ := by kernel_rfl
theorem built_b1 : Tryz.prog.built 45 [(0, .int .i64 3), (1, .int .i64 99), (2, .int .i64 2)] = some (spC (3, 99, 2, 0)).toArray := by kernel_rfl
theorem built_b2 : Tryz.prog.built 45 [(0, .int .i64 1), (1, .int .i64 20)] = some (spC (1, 20, 0, 0)).toArray := by kernel_rfl
theorem built_b3 : Tryz.prog.built 45 [(0, .int .i64 2)] = some (spC (2, 0, 0, 0)).toArray := by kernel_rfl
theorem built_b4 : Tryz.prog.built 45 [(0, .int .i64 3), (1, .int .i64 99), (2, .int .i64 1), (3, .int .u64 1)] = some (spC (3, 99, 1, 1)).toArray := by kernel_rfl
theorem slice_b : sliceCells Tryz.prog 27 4 [(0, .agg (spC (3, 99, 2, 0)).toArray), (1, .agg (spC (1, 20, 0, 0)).toArray), (2, .agg (spC (2, 0, 0, 0)).toArray), (3, .agg (spC (3, 99, 1, 1)).toArray)] = some (45, (bL.flatMap spC).toArray) := by kernel_rfl
theorem slice_l3 : sliceCells Tryz.prog 26 3 [(0, .int .i64 1), (1, .int .i64 2), (2, .int .i64 3)] = some (tLg, (lgs [1, 2, 3]).toArray) := by kernel_rfl
theorem slice_l1 : sliceCells Tryz.prog 26 1 [(0, .int .i64 3)] = some (tLg, (lgs [3]).toArray) := by kernel_rfl
theorem lies_new {w : World} {b n : Nat} {l : List Int} (hn : l.length = n) (h : Blk w b (lgs l) tLg) : LsV w (.slice (some ⟨b, 0, none⟩) n n) l := by
  subst hn
  exact ⟨_, _, rfl, fun _ => ⟨b, 0, rfl, h.lt, h.range (by simp)⟩⟩

theorem lifeBegun_ret {nw : List Is → List Int → Md → List Int → List Int} {LV : List VarT → List ST → List Int → Nat → World → Nat → List Nat → Lz → Prop} (I : LfI nw LV) (w : World) : Ret Tryz.prog 6 [] w fun r w' => r = .bool true ∧ Keep [] w w' := by
  refine ret_of 32 Tryz.func6 rfl rfl (by simp) ?_
  refine au ?_
  refine pl_op rfl rfl (opTo_call (fst := []) (cap := []) rfl rfl rfl rfl (by decide +kernel) ((counter_ret w).mono ?_))
  rintro r w1 ⟨⟨a, d, rfl, hP⟩, hk1⟩
  refine pl_val _ rfl rfl (val_build _ rfl rfl built_b1 w1) ?_
  refine pl_val _ rfl rfl (val_build _ rfl rfl built_b2 w1) ?_
  refine pl_val _ rfl rfl (val_build _ rfl rfl built_b3 w1) ?_
  refine pl_val _ rfl rfl (val_build _ rfl rfl built_b4 w1) ?_
  refine pl_op rfl rfl (opTo_sliceN _ _ rfl rfl slice_b ?_)
  intro w2 g hg hs2 hk2 hb2
  have hF : In (fun k => k < w1.heap.size) w1 := fun c hc => hc
  have hl : SpV w2 (.slice (some ⟨g, 0, none⟩) 4 4) bL := ⟨_, 4, rfl, fun _ => ⟨g, 0, rfl, hb2.lt, hb2.range (by rfl)⟩⟩
  refine pl_op rfl rfl (opTo_call (fst := []) (cap := []) rfl rfl rfl rfl (by decide +kernel) ((I.run (inp := []) 99 (hP.keep hk2 hF.stays) (hF.keep hk2) (ls_nil _) hl (by decide) (by decide) (by decide) (by decide) (by decide) (by decide)).mono ?_))
  rintro r w3 ⟨⟨ov, cv, rfl, hov, hcv, _⟩, hk3⟩
  rw [b_run] at hov hcv ⊢
  have hov' := hov
  have hcv' := hcv
  obtain ⟨oa, oc, rfl, _⟩ := hov'
  obtain ⟨ca, cc, rfl, _⟩ := hcv'
  refine au ?_
  refine pl_op rfl rfl (opTo_allocN _ rfl zero_re ?_)
  intro w4 x4 hx4 hs4 hk4 hb4
  refine pl_op rfl rfl (opTo_storeN (resC 0 (.slice oa 3 oc) (.slice ca 1 cc)) rfl rfl rfl rfl size_re hb4 (by simp [resC]) (resC_one _ _ _ _ _ _ _) ?_)
  intro w5 hs5 hk5 hb5
  rw [splice_whole (by rfl)] at hb5
  have hk35 : Keep [] w3 w5 := hk4.trB hk5 (by omega)
  refine au ?_
  refine ye ?_
  refine au ?_
  refine pl_val _ rfl rfl (val_load1 hT rfl rfl rfl (hb5.cell rfl)) ?_
  refine ye ?_
  refine au ?_
  refine pl_val _ rfl rfl (val_load1 hT rfl rfl rfl (hb5.cell rfl)) ?_
  refine pl_op rfl rfl (opTo_sliceN _ _ rfl rfl slice_l3 ?_)
  intro w6 g6 hg6 hs6 hk6 hb6
  refine pl_op rfl rfl (opTo_call (fst := []) (cap := []) rfl rfl rfl rfl (by decide +kernel) ((sameLs_ret ((hov.keep0 hk35).keep0 hk6) (lies_new (by rfl) hb6) (by decide)).mono ?_))
  rintro r w7 ⟨rfl, hk7⟩
  have hk57 := hk6.tr hk7
  have hb7 := hk57.blk hb5 (by simp)
  refine au ?_
  refine pl_val _ rfl rfl (val_load1 hT rfl rfl rfl (hb7.cell rfl)) ?_
  refine pl_op rfl rfl (opTo_sliceN _ _ rfl rfl slice_l1 ?_)
  intro w8 g8 hg8 hs8 hk8 hb8
  refine pl_op rfl rfl (opTo_call (fst := []) (cap := []) rfl rfl rfl rfl (by decide +kernel) ((sameLs_ret (((hcv.keep0 hk35).keep0 hk57).keep0 hk8) (lies_new (by rfl) hb8) (by decide)).mono ?_))
  rintro r w9 ⟨rfl, hk9⟩
  refine au ?_
  exact rn_ret Tryz.func6 (.inl ⟨_, rfl, rfl⟩) ⟨rfl, ((((hk1.tr hk2).tr hk3).tr hk35).tr hk57).tr (hk8.tr hk9)⟩
end E
end Go.Proofs.YtmplkogkphmmjafGreat

/- The law LifeAgain, walked from what is to be shown of package life; what a step leaves true. -/
namespace Go.Proofs.YtmplkogkphmmjafGreat
set_option maxRecDepth 20000
set_option maxHeartbeats 4000000
namespace E
open Go.Proofs

/-- What is known of steps as they are read. -/
def SpOk (s : Sp) : Prop := s.2.1 < 9223372036854775808 ∧ s.2.2.1 < 9223372036854775808 ∧ s.2.2.2 < 18446744073709551616
section
variable {nw : List Is → List Int → Md → List Int → List Int} {vs : List VarT} {body : List ST} {inp : List Int} {z : Lz} {i : Nat}
theorem invZ0 (vs : List VarT) (body : List ST) (inp : List Int) : InvZ vs body inp (lz0 (sumV vs).toNat) 0 := ⟨⟨Int.le_refl _, Int.le_refl _⟩, 0, Nat.le_refl _, invL0⟩
theorem InvZ.mono (h : InvZ vs body inp z i) {j : Nat} (hij : i ≤ j) : InvZ vs body inp z j := let ⟨⟨a, b⟩, g, h1, h2⟩ := h; ⟨⟨a, by omega⟩, g, Nat.le_trans h1 hij, h2⟩
theorem doZS_le (s : Sp) (z : Lz) : (doZS nw (insP vs body) inp s z).2 ≤ (if 0 < s.2.1 ∧ s.2.1 ≤ 3000 then s.2.1.toNat else 0) := by
  unfold doZS
  by_cases hf : spFault s = 0
  · rw [if_pos hf, (doZ_lf _ _ _ z).2]
    by_cases h2 : s.1 = 2
    · unfold doL
      rw [if_pos h2]
      exact Nat.zero_le _
    · have hN : 0 ≤ s.2.1 ∧ s.2.1 ≤ 3000 := by
        unfold spFault at hf
        split at hf
        · omega
        · split at hf
          · omega
          · rename_i h1 h3
            constructor
            · exact Int.not_lt.1 fun h => h3 (.inl ⟨h2, .inl h⟩)
            · exact Int.not_lt.1 fun h => h3 (.inl ⟨h2, .inr h⟩)
      have := doL_le (insP vs body) inp s.1 s.2.1.toNat (spKeep s) z.lf
      split <;> omega
  · rw [if_neg hf]
    exact Nat.zero_le _
theorem InvZ.step (h : InvZ vs body inp z i) (s : Sp) : InvZ vs body inp (doZS nw (insP vs body) inp s z).1 (i + (doZS nw (insP vs body) inp s z).2) := by
  obtain ⟨⟨k1, k2⟩, g, h1, h2⟩ := h
  unfold doZS
  by_cases hf : spFault s = 0
  · rw [if_pos hf]
    obtain ⟨e1, e2⟩ := doZ_lf (nw := nw) (L := insP vs body) (inp := inp) s.1 s.2.1.toNat (spKeep s) z
    obtain ⟨g', a1, a2, a3⟩ := h2.does s.1 s.2.1.toNat (spKeep s)
    obtain ⟨k3, k4⟩ := doZ_gen (nw := nw) (L := insP vs body) (inp := inp) s.1 s.2.1.toNat (spKeep s) z
    refine ⟨⟨by omega, by omega⟩, g', by rw [e2]; omega, ?_⟩
    rw [e1]
    exact a3
  · rw [if_neg hf]
    exact ⟨⟨k1, by simp only; omega⟩, g, by omega, h2⟩
theorem InvZ.stepN (h : InvZ vs body inp z i) (s : Sp) : InvZ vs body inp (doZS nw (insP vs body) inp s z).1 (i + (if 0 < s.2.1 ∧ s.2.1 ≤ 3000 then s.2.1.toNat else 0)) := (h.step s).mono (Nat.add_le_add_left (doZS_le s z) i)
theorem crash_Z (mask : Nat) (z : Lz) : doZS nw (insP vs body) inp (2, 0, 0, mask) z = (wakeZ z, 0) := rfl
/-- What was printed, and the cells, are not too many. -/
theorem InvZ.bnd (h : InvZ vs body inp z i) (hpf : progFault vs body = 0) (hsz : szSs body ≤ 1000) : z.lf.p.1.length ≤ i ∧ z.lf.m.cells.length ≤ 48 ∧ z.lf.p.2 = false := by
  obtain ⟨_, g, h1, a, b, e1, e2, e3, _, _⟩ := h
  obtain ⟨c, hc, h48, hP⟩ := prog_prg hpf hsz
  have hcc : c = (sumV vs).toNat := by omega
  obtain ⟨_, b2, _⟩ := pu_bounds (W := insP vs body) (inp := inp) (c := (sumV vs).toNat) g
  have hf := pu_fit (inp := inp) hP.sim hP.jmp a
  rw [hcc] at hf
  have hcl := hf.cells
  refine ⟨by rw [e3]; omega, ?_, by rw [e3]; exact (pu_out g).2⟩
  have : ((z.lf.m.cells.length : Nat) : Int) = ((sumV vs).toNat : Nat) := by rw [e1]; exact hcl
  omega
end
theorem cell_keep {w w' : World} {b i : Nat} {v : Value} (hk : Keep [] w w') (hc : w.cell? ⟨b, i, none⟩ = some v) : w'.cell? ⟨b, i, none⟩ = some v := by
  have hb : b < w.heap.size := by
    rcases Nat.lt_or_ge b w.heap.size with h | h
    · exact h
    · exfalso
      have hn : w.heap[b]? = none := Array.getElem?_eq_none h
      simp [World.cell?, hn] at hc
  rw [World.cell?_of_block (w := w) (hk.block b hb (by simp))]
  exact hc
/-- It does not lie in block g. -/
def NotIn (v : Value) (g : Nat) : Prop := ∀ b q n c, v = .slice (some ⟨b, q, none⟩) n c → 0 < n → b ≠ g
theorem LsV.notNew {w : World} {v : Value} {l : List Int} {g : Nat} (h : LsV w v l) (hg : g = w.heap.size) : NotIn v g := fun b q n c he h0 => by
  obtain ⟨a, k, rfl, h2⟩ := h
  injection he with e1 e2 e3
  subst e1 e2 e3
  obtain ⟨b', q', e, h3, _⟩ := h2 h0
  cases e
  omega
theorem Nw.notOld {w : World} {v : Value} {g : Nat} (h : Nw w v) (hg : g < w.heap.size) : NotIn v g := fun b q n c he h0 => by
  have := h b q n c he h0
  omega
theorem LsV.keepN {w w' : World} {v : Value} {l : List Int} {g : Nat} (h : LsV w v l) (hk : Keep [g] w w') (hn : NotIn v g) : LsV w' v l := by
  obtain ⟨a, k, rfl, h2⟩ := h
  refine ⟨a, k, rfl, fun h0 => ?_⟩
  obtain ⟨b, q, rfl, h3, h4⟩ := h2 h0
  exact ⟨b, q, rfl, Nat.lt_of_lt_of_le h3 hk.size, range_keep h4 hk h3 (by simpa using hn b q _ k rfl h0)⟩
theorem LsV.keepW {w0 w w' : World} {v : Value} {l : List Int} {fp : List Nat} (h : LsV w v l) (hk : Keep fp w w') (hn : Nw w0 v) (hf : ∀ k ∈ fp, k < w0.heap.size) : LsV w' v l := by
  obtain ⟨a, k, rfl, h2⟩ := h
  refine ⟨a, k, rfl, fun h0 => ?_⟩
  obtain ⟨b, q, rfl, h3, h4⟩ := h2 h0
  refine ⟨b, q, rfl, Nat.lt_of_lt_of_le h3 hk.size, range_keep h4 hk h3 fun hm => ?_⟩
  have h5 := hn b q _ k rfl h0
  have h6 := hf b hm
  omega
theorem Nw.low {w w' : World} {v : Value} (h : Nw w' v) (hk : w.heap.size ≤ w'.heap.size) : Nw w v := fun b q n c he h0 => Nat.le_trans hk (h b q n c he h0)
theorem LsV.form {w : World} {v : Value} {l : List Int} (h : LsV w v l) : ∃ a k, v = .slice a l.length k := let ⟨a, k, h, _⟩ := h; ⟨a, k, h⟩
theorem built_cr (m : Nat) : Tryz.prog.built 45 [(0, .int .i64 2), (3, .int .u64 (m : Nat))] = some (spC (2, 0, 0, m)).toArray := by kernel_rfl

end E
end Go.Proofs.YtmplkogkphmmjafGreat

/- The law LifePrints, walked from what is to be shown of packages life and ideal. -/
namespace Go.Proofs.YtmplkogkphmmjafGreat
set_option maxRecDepth 20000
set_option maxHeartbeats 4000000
namespace E
open Go.Proofs

/-- It does not lie in these blocks. -/
def NF (v : Value) (fp : List Nat) : Prop := ∀ b q n c, v = .slice (some ⟨b, q, none⟩) n c → 0 < n → b ∉ fp
theorem LsV.keepF {w w' : World} {v : Value} {l : List Int} {fp : List Nat} (h : LsV w v l) (hk : Keep fp w w') (hn : NF v fp) : LsV w' v l := by
  obtain ⟨a, k, rfl, h2⟩ := h
  refine ⟨a, k, rfl, fun h0 => ?_⟩
  obtain ⟨b, q, rfl, h3, h4⟩ := h2 h0
  exact ⟨b, q, rfl, Nat.lt_of_lt_of_le h3 hk.size, range_keep h4 hk h3 (hn b q _ k rfl h0)⟩
theorem LsV.nf {w : World} {v : Value} {l : List Int} {fp fp' : List Nat} (h : LsV w v l) (hn : NF v fp) (hf : ∀ k ∈ fp', k ∈ fp ∨ w.heap.size ≤ k) : NF v fp' := fun b q n c he h0 hm => by
  obtain ⟨a, k, rfl, h2⟩ := h
  injection he with e1 e2 e3
  subst e1 e2 e3
  obtain ⟨b', q', e, h3, _⟩ := h2 h0
  cases e
  rcases hf _ hm with h4 | h4
  · exact hn b q _ _ rfl h0 h4
  · omega
theorem Nw.nf {w : World} {v : Value} {fp : List Nat} (h : Nw w v) (hf : ∀ k ∈ fp, k < w.heap.size) : NF v fp := fun b q n c he h0 hm => by
  have := h b q n c he h0
  have := hf b hm
  omega
theorem nf_nil (a : Nat) (fp : List Nat) : NF (.slice (some ⟨a, 0, none⟩) 0 0) fp := fun b q n c he h0 => by
  injection he with _ e2 _
  omega
section
variable {nw : List Is → List Int → Md → List Int → List Int} {vs : List VarT} {body : List ST} {inp : List Int} {z : Lz} {i : Nat}
/-- What was printed stays. -/
theorem InvZ.out (h : InvZ vs body inp z i) (s : Sp) : z.lf.p.1 <+: (doZS nw (insP vs body) inp s z).1.lf.p.1 := by
  obtain ⟨_, g, h1, h2⟩ := h
  unfold doZS
  by_cases hf : spFault s = 0
  · rw [if_pos hf]
    obtain ⟨e1, e2⟩ := doZ_lf (nw := nw) (L := insP vs body) (inp := inp) s.1 s.2.1.toNat (spKeep s) z
    obtain ⟨g', a1, a2, a, b, _, _, a3, _⟩ := h2.does s.1 s.2.1.toNat (spKeep s)
    obtain ⟨_, _, _, _, b3, _⟩ := h2
    rw [e1, a3, b3]
    exact pu_pre a1
  · rw [if_neg hf]
    exact List.prefix_refl _
/-- What is printed without a machine is what is printed without crashes. -/
theorem says_pu (hpf : progFault vs body = 0) (hsz : szSs body ≤ 1000) (inp : List Int) (n : Nat) : (resX (saysX vs body inp n)).2.1 = (pu (insP vs body) inp (sumV vs).toNat n).2.1 := by
  obtain ⟨k, m, out, h1, h2, _, h4, _, _, _, h7⟩ := says_at hpf hsz inp n
  rw [h7]
  show out = _
  rcases h4 with h4 | h4
  · rw [← h4, h2]
  · have h2' : (pu (insP vs body) inp (sumV vs).toNat k).1.state ≠ 0 := by rw [h2]; exact h4
    rw [pu_idle h2' n h1, h2]
theorem InvZ.begins (h : InvZ vs body inp z i) (hpf : progFault vs body = 0) (hsz : szSs body ≤ 1000) : z.lf.p.1 <+: (toldX (resX (saysX vs body inp i))).out := by
  obtain ⟨_, g, h1, h2⟩ := h
  have e : (toldX (resX (saysX vs body inp i))).out = (resX (saysX vs body inp i)).2.1 := rfl
  rw [e, says_pu hpf hsz]
  exact (h2.prints h1).1
end
theorem codeB_not15 {m : Md} {p : Pr} (h : p.2 = false) (hs : m.state ≤ 14) : codeB m p ≠ 15 := by
  rw [codeB_nat m p h]
  split
  · decide
  · split
    · decide
    · omega
theorem InvZ.state {vs : List VarT} {body : List ST} {inp : List Int} {z : Lz} {i : Nat} (h : InvZ vs body inp z i) : z.lf.m.state ≤ 14 := by
  obtain ⟨_, g, h1, a, b, e1, _⟩ := h
  rw [e1]
  exact (pu_bounds (W := insP vs body) (inp := inp) (c := (sumV vs).toNat) a).2.2
theorem slice_l0 : sliceCells Tryz.prog 26 0 [] = some (tLg, [].toArray) := by kernel_rfl

theorem lifePrints_ret {nw : List Is → List Int → Md → List Int → List Int} {LV : List VarT → List ST → List Int → Nat → World → Nat → List Nat → Lz → Prop} (I : LfI nw LV) (J : IdC) {w : World} {x iv lv : Value} {vs : List VarT} {body : List ST} {inp : List Int} {l : List Sp}
    (h : ProgV (fun b => b < w.heap.size) w x vs body) (hi : LsC w iv inp) (hl : SpV w lv l) (hlo : ∀ s ∈ l, SpOk s) :
    Ret Tryz.prog 5 [x, iv, lv] w fun r w' => r = .bool true ∧ Keep [] w w' := by
  have hF : In (fun b => b < w.heap.size) w := fun c hc => hc
  have hh := h
  obtain ⟨vv, bv, rfl, hv, hb⟩ := h
  obtain ⟨av, capv, rfl⟩ := hv.form
  obtain ⟨ab, capb, rfl⟩ := hb.form
  have hic := hi
  obtain ⟨⟨ia, icap, rfl, _⟩, _⟩ := hi
  obtain ⟨la, lcap, rfl⟩ := hl.form
  refine ret_of 83 Tryz.func5 rfl rfl (by simp) ?_
  refine au ?_
  refine pl_op rfl rfl (opTo_boxN [.slice av vs.length capv, .slice ab body.length capb] rfl rfl rfl ?_)
  intro w1 p hp0 hs1 hk1 hp1
  refine au ?_
  refine pl_op rfl rfl (opTo_call (fst := []) (cap := []) rfl rfl rfl rfl (by decide +kernel) ((lifeBegun_ret I w1).mono ?_))
  rintro r w2 ⟨rfl, hk2⟩
  have hk02 := hk1.tr hk2
  have hp2 := hk2.blk hp1 (by simp)
  refine au ?_
  refine pl_val _ rfl rfl (val_load [.slice av vs.length capv, .slice ab body.length capb] hT rfl rfl rfl (hp2.range (by rfl))) ?_
  refine au ?_
  refine pl_op rfl rfl (opTo_call (fst := []) (cap := []) rfl rfl rfl rfl (by decide +kernel) ((greatLife_ret (hh.keep hk02 hF.stays) (hF.keep hk02) ⟨ia, icap, rfl⟩ (hl.keep0 hk02)).mono ?_))
  rintro r w3 ⟨⟨g, rfl, hg⟩, hk3⟩
  have hk03 := hk02.tr hk3
  have hp3 := hk3.blk hp2 (by simp)
  cases g with
  | true =>
    refine au ?_
    exact rn_ret Tryz.func5 (.inl ⟨_, rfl, rfl⟩) ⟨rfl, hk03⟩
  | false =>
    obtain ⟨h30, hnm, hsz, hil, hll, hns⟩ := hg rfl
    refine au ?_
    refine pl_val _ rfl rfl (val_load [.slice av vs.length capv, .slice ab body.length capb] hT rfl rfl rfl (hp3.range (by rfl))) ?_
    refine au ?_
    refine pl_op rfl rfl (opTo_call (fst := []) (cap := []) rfl rfl rfl rfl (by decide +kernel) ((I.new (hh.keep hk03 hF.stays) (hF.keep hk03) (hic.keep0 hk03) (by omega) (by omega) (by omega)).mono ?_))
    rintro r w4 ⟨⟨pv, rfl, hnew⟩, hk4⟩
    have hk04 := hk03.tr hk4
    refine au ?_
    by_cases hc0 : ¬ newF vs body inp = 0
    · refine ye ?_
      refine au ?_
      exact rn_ret Tryz.func5 (.inl ⟨_, rfl, rfl⟩) ⟨rfl, hk04⟩
    replace hc0 : newF vs body inp = 0 := by omega
    obtain ⟨y, fp, rfl, hy4⟩ := hnew hc0
    have hpf : progFault vs body = 0 := by
      unfold newF at hc0
      split at hc0
      · assumption
      · exact hc0
    have hin : inp.length ≤ 40 := by
      unfold newF at hc0
      rw [if_pos hpf] at hc0
      split at hc0
      · assumption
      · cases hc0
    have hBw : w.heap.size ≤ w3.heap.size := hk03.size
    rw [hc0]
    refine nay ?_
    refine au ?_
    refine pl_op rfl rfl (opTo_sliceN _ _ rfl rfl slice_l0 ?_)
    intro w5 g5 hg5 hs5 hk5 hb5
    have hy5 := I.keep0 hy4 hk5
    have hp5 := (hk4.tr hk5).blk hp3 (by simp)
    refine au ?_
    refine rn_ind (fun q σ w' => ∃ (i all : Nat) (fp' : List Nat) (z : Lz) (wv : Value), i ≤ l.length ∧ q = l.length - i ∧ all ≤ nSum (l.take i) ∧ σ = [(1, .slice ia inp.length icap), (2, .slice la l.length lcap), (3, .pointer (some ⟨p, 0, none⟩)), (7, .pointer (some ⟨y, 0, none⟩)), (9, .int .i64 (all : Nat)), (10, wv), (11, .int .i64 (i : Nat))] ∧ LV vs body inp w3.heap.size w' y fp' z ∧ InvZ vs body inp z all ∧ LsV w' wv z.lf.p.1 ∧ NF wv fp' ∧ Blk w' p [.slice av vs.length capv, .slice ab body.length capb] 25 ∧ Keep [] w w')
      l.length _ ?_ ⟨0, 0, fp, _, _, by omega, by omega, Nat.zero_le _, rfl, hy5, invZ0 vs body inp, ⟨_, _, rfl, fun h0 => absurd h0 (by show ¬ 0 < 0; omega)⟩, nf_nil g5 fp, hp5, hk04.tr hk5⟩ ?_
    · exact ⟨rfl, rfl, rfl, rfl, rfl, rfl, rfl, trivial⟩
    rintro q σ w6 ih ⟨i, all, fp6, z, wv, hi6, rfl, hal, rfl, hy6, hz6, hwv6, hnf6, hp6, hk06⟩
    have hns6 := nSum_take_le l i
    refine au ?_
    by_cases hlt : i < l.length
    · refine ye ?_
      have hxi : l[i]? = some l[i] := List.getElem?_eq_getElem hlt
      obtain ⟨sb, sq, scap, hv', hra⟩ := (hl.keep0 hk06).at hxi
      cases hv'
      obtain ⟨o1, o2, o3⟩ := hlo l[i] (List.getElem_mem _)
      have hsn := nSum_take hxi
      have hdl := doZS_le (nw := nw) (vs := vs) (body := body) (inp := inp) l[i] z
      have hns7 := nSum_take_le l (i + 1)
      refine au ?_
      refine pl_val _ rfl rfl (val_index i hT rfl rfl rfl rfl rfl hlt w6) ?_
      refine pl_val (.agg (spC l[i]).toArray) rfl rfl (val_load (spC l[i]) hT rfl rfl rfl hra) ?_
      refine pl_op rfl rfl (opTo_call (fst := []) (cap := []) rfl rfl rfl rfl (by decide +kernel) ((I.does l[i] hy6 hz6 (by omega) hpf (by omega) hin o1 o2 o3).mono ?_))
      rintro r w7 ⟨rfl, fp7, hy7, hk7, hf7⟩
      have hz7 := hz6.step (nw := nw) l[i]
      have hpre := hz6.out (nw := nw) l[i]
      have hk07 := I.low hy6 hk06 hBw hk7
      have hwv7 := hwv6.keepF hk7 hnf6
      have hnf7 := hwv6.nf hnf6 hf7
      have hp7 := hk7.blk hp6 (fun hm => by have := (I.lt hy6 p hm).1; have := hk2.size; have := hk3.size; omega)
      generalize doZS nw (insP vs body) inp l[i] z = zn at *
      obtain ⟨z7, n7⟩ := zn
      dsimp only at hy7 hz7 hpre hdl ⊢
      obtain ⟨bo, bc, bp⟩ := hz7.bnd hpf (by omega)
      refine au ?_
      refine pl_num (((all + n7 : Nat) : Int)) rfl rfl rfl rfl rfl (by simp only [ariP]; omega) ?_
      refine au ?_
      refine pl_op rfl rfl (opTo_call (fst := []) (cap := []) rfl rfl rfl rfl (by decide +kernel) ((I.now hy7 hz7 (by omega) hpf (by omega)).mono ?_))
      rintro r w8 ⟨⟨ov, cv, rfl, hov8, hcv8, n1, n2⟩, hk8⟩
      have hy8 := I.keep0 hy7 hk8
      have hovf := hov8.1.form
      refine pl_val ov rfl rfl (val_field1 1 (resC (codeB z7.lf.m z7.lf.p) ov cv) rfl rfl (by decide +kernel) rfl w8) ?_
      refine au ?_
      refine pl_op rfl rfl (opTo_call (fst := []) (cap := []) rfl rfl rfl rfl (by decide +kernel) ((I.now hy8 hz7 (by omega) hpf (by omega)).mono ?_))
      rintro r w9 ⟨⟨ov2, cv2, rfl, _, _, _, _⟩, hk9⟩
      refine pl_val (.int .i64 (codeB z7.lf.m z7.lf.p)) rfl rfl (val_field1 0 (resC (codeB z7.lf.m z7.lf.p) ov2 cv2) rfl rfl (by decide +kernel) rfl w9) ?_
      have h15 := codeB_not15 (m := z7.lf.m) bp hz7.state
      refine nay ?_
      refine au ?_
      refine pl_op rfl rfl (opTo_call (fst := []) (cap := []) rfl rfl rfl rfl (by decide +kernel) ((begins_ret ((hwv7.keep0 hk8).keep0 hk9) (hov8.keep0 hk9) hpre (by have := hpre.length_le; omega)).mono ?_))
      rintro r w10 ⟨rfl, hk10⟩
      have hk710 := (hk8.tr hk9).tr hk10
      refine au ?_
      refine pl_num (((i + 1 : Nat) : Int)) rfl rfl rfl rfl rfl (by simp only [ariP]; omega) ?_
      refine au ?_
      refine rn_sub ?_ (ih (l.length - (i + 1)) _ w10 (by omega) ⟨i + 1, all + n7, fp7, z7, ov, by omega, rfl, by rw [hsn]; omega, rfl, I.keep0 hy7 hk710, hz7, (hov8.1.keep0 hk9).keep0 hk10, n1.nf fun k hk => (I.lt hy7 k hk).2, hk710.blk hp7 (by simp), hk07.tr hk710⟩)
      exact ⟨rfl, rfl, rfl, rfl, rfl, rfl, rfl, trivial⟩
    · refine nay ?_
      refine au ?_
      by_cases h3 : 3000 < all
      · refine ye ?_
        refine au ?_
        exact rn_ret Tryz.func5 (.inl ⟨_, rfl, rfl⟩) ⟨rfl, hk06⟩
      refine nay ?_
      refine au ?_
      refine pl_val _ rfl rfl (val_load [.slice av vs.length capv, .slice ab body.length capb] hT rfl rfl rfl (hp6.range (by rfl))) ?_
      refine au ?_
      obtain ⟨T, hTe⟩ : ∃ T, T = runI vs body inp ((all : Nat) : Int) := ⟨_, rfl⟩
      have hT1 := runI_in (inp := inp) (fuel := ((all : Nat) : Int)) hpf hin (by omega) (by omega)
      rw [← hTe, Int.toNat_natCast] at hT1
      refine pl_op rfl rfl (opTo_call (fst := []) (cap := []) rfl rfl rfl rfl (by decide +kernel) ((J.run _ (hh.keep hk06 hF.stays) (hF.keep hk06) (hic.keep0 hk06) (by omega) (by omega) (by omega)).mono ?_))
      rintro r w7 ⟨⟨ov, cv, rfl, hov7, hcv7, _⟩, hk7⟩
      rw [← hTe] at hov7 hcv7 ⊢
      obtain ⟨oa, ok, rfl⟩ := hov7.1.form
      obtain ⟨ca, ck, rfl⟩ := hcv7.form
      refine au ?_
      refine pl_op rfl rfl (opTo_allocN _ rfl zero_re ?_)
      intro w8 x8 hx8 hs8 hk8 hb8
      refine pl_op rfl rfl (opTo_storeN (resC T.code (.slice oa T.out.length ok) (.slice ca T.cells.length ck)) rfl rfl rfl rfl size_re hb8 (by simp [resC]) (resC_one _ _ _ _ _ _ _) ?_)
      intro w9 hs9 hk9 hb9
      rw [splice_whole (by rfl)] at hb9
      have hk79 : Keep [] w7 w9 := hk8.trB hk9 (by omega)
      have t5 : T.fault = 0 := by rw [hT1]; rfl
      have hpre : z.lf.p.1 <+: T.out := by rw [hT1]; exact hz6.begins hpf (by omega)
      obtain ⟨bo, bc, bp⟩ := hz6.bnd hpf (by omega)
      refine au ?_
      refine ye ?_
      refine au ?_
      refine pl_val _ rfl rfl (val_load1 hT rfl rfl rfl (hb9.cell rfl)) ?_
      refine pl_op rfl rfl (opTo_call (fst := []) (cap := []) rfl rfl rfl rfl (by decide +kernel) ((begins_ret ((hwv6.keep0 hk7).keep0 hk79) (hov7.keep0 hk79) hpre (by omega)).mono ?_))
      rintro r w10 ⟨rfl, hk10⟩
      refine au ?_
      exact rn_ret Tryz.func5 (.inl ⟨_, rfl, rfl⟩) ⟨rfl, ((hk06.tr hk7).tr hk79).tr hk10⟩
end E
end Go.Proofs.YtmplkogkphmmjafGreat

/- Plain mathematics of a life: what it is in, is in order. -/
namespace Go.Proofs.YtmplkogkphmmjafGreat
set_option maxRecDepth 20000
set_option maxHeartbeats 4000000
namespace E
open Go.Proofs

theorem exI_stack (inp : List Int) (x : Is) (m : Md) (p : Pr) : (exI inp x m p).1.stack.length ≤ m.stack.length + 1 := by
  simp only [exI, apply_ite Prod.fst, apply_ite Md.stack, apply_ite List.length, List.length_append, List.length_dropLast, List.length_cons, List.length_nil]
  repeat' split
  all_goals omega
theorem pu_stack {Q : List Is} {inp : List Int} {c : Nat} (hQ : Sim c 0 Q 0) (hJ : Jmps c 0 Q) : ∀ (n : Nat), (pu (Q ++ [haltI]) inp c n).1.stack.length ≤ 25
  | 0 => by simp [pu, runB, mind0]
  | n + 1 => by
    rw [pu_succ]
    unfold stB
    split
    · rename_i hs
      have h1 := ((pu_fit (inp := inp) hQ hJ n).sim hs).le (by decide)
      have h2 := exI_stack inp ((Q ++ [haltI]).getD (pu (Q ++ [haltI]) inp c n).1.next (0, 0, 0, 0)) (pu (Q ++ [haltI]) inp c n).1 (pu (Q ++ [haltI]) inp c n).2
      omega
    · exact pu_stack hQ hJ n
/-- What a life is in, is in order. -/
theorem InvL.fit {Q : List Is} {inp : List Int} {c : Nat} {x : Lf} {g : Nat} (h : InvL (Q ++ [haltI]) inp c x g) (hP : Prg c Q) : Fit c Q x.m x.p ∧ x.p.1.length ≤ g ∧ x.m.read ≤ g ∧ x.m.state ≤ 14 ∧ x.k.stack.length ≤ 25 ∧ (x.k.cells.length : Int) = c ∧ x.p.2 = false := by
  obtain ⟨a, b, e1, e2, e3, h1, h2⟩ := h
  have fa := pu_fit (inp := inp) hP.sim hP.jmp a
  have fb := pu_fit (inp := inp) hP.sim hP.jmp b
  obtain ⟨b1, b2, b3⟩ := pu_bounds (W := Q ++ [haltI]) (inp := inp) (c := c) a
  obtain ⟨_, d2, _⟩ := pu_bounds (W := Q ++ [haltI]) (inp := inp) (c := c) g
  have ho := (pu_out (W := Q ++ [haltI]) (inp := inp) (c := c) a).1
  have hpre := (pu_pre (W := Q ++ [haltI]) (inp := inp) (c := c) h1).length_le
  refine ⟨?_, by rw [e3]; exact d2, by rw [e1]; omega, by rw [e1]; exact b3, by rw [e2]; exact pu_stack hP.sim hP.jmp b, by rw [e2]; exact fb.cells, by rw [e3]; exact (pu_out g).2⟩
  rw [e1, e3]
  exact ⟨fa.cells, by omega, fa.next, fa.sim⟩
end E
end Go.Proofs.YtmplkogkphmmjafGreat
