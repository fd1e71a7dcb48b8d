/- Several texts in one: CoF, CoG, RfA, CmC, BeS. -/
import Derived.Test.YtmplkogkphmmjafGreatJ05
import Derived.Test.YtmplkogkphmmjafGreatJ04
/- Contracts of checkVars, Check, Cell, Cells. -/
namespace Go.Proofs.YtmplkogkphmmjafGreat
set_option maxRecDepth 20000
set_option maxHeartbeats 4000000
namespace E
open Go.Proofs

theorem VarsV.cut {F : Nat → Prop} {w : World} {a : Option Addr} {cap i : Nat} {l : List VarT} (h : VarsV F w (.slice a l.length cap) l) (hi : i ≤ l.length) : VarsV F w (.slice a i cap) (l.take i) := by
  obtain ⟨a', cap', hv, hc, hr⟩ := h
  cases hv
  refine ⟨a, cap, by rw [List.length_take, Nat.min_eq_left hi], by rw [List.length_take]; omega, fun h0 => ?_⟩
  rw [List.length_take, Nat.min_eq_left hi] at h0
  obtain ⟨b, q, ha, hF, hra⟩ := hr (by omega)
  refine ⟨b, q, ha, hF, fun j hj => ?_⟩
  rw [List.length_take, Nat.min_eq_left hi] at hj
  have := hra j (by omega)
  have e : (l.take i).getD j (ByteArray.empty, 0) = l.getD j (ByteArray.empty, 0) := by
    rw [List.getD_eq_getElem?_getD, List.getD_eq_getElem?_getD, List.getElem?_take, if_pos hj]
  show w.rangeAt b (q + j * 2) (vcell ((l.take i).getD j (ByteArray.empty, 0)))
  rw [e]
  exact this

theorem vcell_one (x : VarT) : ∀ u ∈ vcell x, u.oneCell' = true := by
  intro u hu
  simp [vcell] at hu
  rcases hu with rfl | rfl <;> rfl
def varZ : List Value := [.string ⟨#[]⟩, .int .i64 0]
theorem zero_var : ((Tryz.prog.info? 67).bind (·.zero)).map (·.cells) = some varZ.toArray := by kernel_rfl

theorem ahead_ret {w : World} {xb : Nat} {x : VarT} (h : Blk w xb (vcell x) 67) (y : VarT) :
    Ret Tryz.prog 93 [.agg (vcell y).toArray, .pointer (some ⟨xb, 0, none⟩)] w fun r w' => r = .bool (y.1.toList == x.1.toList) ∧ Keep [] w w' := by
  obtain ⟨ys, yz⟩ := y
  obtain ⟨xs, xz⟩ := x
  refine ret_of 9 Tryz.func93 rfl rfl (by simp) ?_
  refine au ?_
  refine pl_op rfl rfl (opTo_boxN [.string ys, .int .i64 yz] rfl rfl rfl ?_)
  intro w1 b hb0 hs1 hk1 hb1
  have h1 := hk1.blk h (by simp)
  unfold vcell at h1
  refine aub ?_
  refine pl_val _ rfl rfl (val_eqStr ys xs _ rfl rfl rfl rfl w1) ?_
  refine au ?_
  exact rn_ret Tryz.func93 (.inl ⟨_, rfl, rfl⟩) ⟨rfl, hk1⟩

def sameName (x y : VarT) : Bool := y.1.toList == x.1.toList

theorem index_ret {F : Nat → Prop} {w : World} {xb : Nat} {x : VarT} {lv : Value} {l : List VarT} (h : VarsV F w lv l) (hF : In F w) (hx : Blk w xb (vcell x) 67) (hl : l.length ≤ 1000) :
    Ret Tryz.prog 122 [lv, .func (.func 93) #[] #[.pointer (some ⟨xb, 0, none⟩)]] w fun r w' => (∃ j : Int, r = .int .i64 j ∧ decide (j ≥ 0) = l.any (sameName x)) ∧ Keep [] w w' := by
  obtain ⟨a, cap, rfl⟩ := h.form
  refine ret_of 19 Tryz.func122 rfl rfl (by simp) ?_
  refine au ?_
  refine rn_ind (fun m σ w' => ∃ i : Nat, i ≤ l.length ∧ m = l.length - i ∧ σ = [(0, .slice a l.length cap), (1, .func (.func 93) #[] #[.pointer (some ⟨xb, 0, none⟩)]), (7, .int .i64 (l.length : Nat)), (8, .int .i64 (i : Nat))] ∧ (l.take i).any (sameName x) = false ∧ Keep [] w w')
    l.length _ ?_ ⟨0, by omega, by omega, rfl, by simp, Keep.refl _ _⟩ ?_
  · exact ⟨rfl, rfl, rfl, rfl, trivial⟩
  rintro m σ w2 ih ⟨i, hi, rfl, rfl, hany, hk2⟩
  refine au ?_
  by_cases hlt : i < l.length
  · refine ye ?_
    refine au ?_
    have hget : l[i]? = some l[i] := List.getElem?_eq_getElem hlt
    obtain ⟨bb, q, cap', hv, _, hra⟩ := (h.keep hk2 hF.stays).at hget
    cases hv
    refine pl_val _ rfl rfl (val_index i hT rfl rfl rfl rfl rfl hlt w2) ?_
    refine pl_val _ rfl rfl (val_load (vcell l[i]) hT rfl rfl rfl hra) ?_
    refine pl_op rfl rfl (opTo_call (fst := []) (cap := [.pointer (some ⟨xb, 0, none⟩)]) rfl rfl rfl rfl (by decide +kernel) ((ahead_ret (hk2.blk hx (by simp)) l[i]).mono ?_))
    rintro v3 w3 ⟨rfl, hk3⟩
    have hsu : (l.take (i + 1)).any (sameName x) = sameName x l[i] := by
      rw [List.take_succ_eq_append_getElem hlt, List.any_append, hany]
      simp
    cases hb : (l[i].1.toList == x.1.toList) with
    | true =>
      refine au ?_
      refine rn_ret Tryz.func122 (.inl ⟨_, rfl, rfl⟩) ⟨⟨_, rfl, ?_⟩, hk2.tr hk3⟩
      have : l.any (sameName x) = true := List.any_eq_true.2 ⟨l[i], List.getElem_mem hlt, hb⟩
      rw [this]
      simp
    | false =>
      refine au ?_
      refine pl_num (((i + 1 : Nat) : Int)) rfl rfl rfl rfl rfl (by simp only [ariP]; omega) ?_
      refine au ?_
      refine rn_sub ?_ (ih (l.length - (i + 1)) [(0, .slice (some ⟨bb, q, none⟩) l.length cap), (1, .func (.func 93) #[] #[.pointer (some ⟨xb, 0, none⟩)]), (7, .int .i64 (l.length : Nat)), (8, .int .i64 ((i + 1 : Nat) : Int))] w3 (by omega) ⟨i + 1, by omega, rfl, rfl, ?_, hk2.tr hk3⟩)
      · exact ⟨rfl, rfl, rfl, rfl, trivial⟩
      · rw [hsu]; exact hb
  · refine nay ?_
    refine au ?_
    refine rn_ret Tryz.func122 (.inl ⟨_, rfl, rfl⟩) ⟨⟨_, rfl, ?_⟩, hk2⟩
    rw [List.take_of_length_le (by omega)] at hany
    rw [hany]
    rfl

theorem contains_ret {F : Nat → Prop} {w : World} {xb : Nat} {x : VarT} {lv : Value} {l : List VarT} (h : VarsV F w lv l) (hF : In F w) (hx : Blk w xb (vcell x) 67) (hl : l.length ≤ 1000) :
    Ret Tryz.prog 92 [lv, .func (.func 93) #[] #[.pointer (some ⟨xb, 0, none⟩)]] w fun r w' => r = .bool (l.any (sameName x)) ∧ Keep [] w w' := by
  refine ret_of 9 Tryz.func92 rfl rfl (by simp) ?_
  refine au ?_
  refine pl_op rfl rfl (opTo_call rfl rfl rfl rfl (by decide +kernel) ((index_ret h hF hx hl).mono ?_))
  rintro v1 w1 ⟨⟨j, rfl, hj⟩, hk1⟩
  refine pl_val (.bool (l.any (sameName x))) rfl rfl (val_int .i64 _ _ _ rfl rfl rfl (by simp only [intOp, ← hj]) w1) ?_
  refine au ?_
  exact rn_ret Tryz.func92 (.inl ⟨_, rfl, rfl⟩) ⟨rfl, hk1⟩

theorem chkV_at {vs : List VarT} {i : Nat} {x : VarT} (hx : vs[i]? = some x) : chkV ((vs.take i).map (·.1)) (sumV (vs.take i)) (vs.drop i) =
    if nameOk x.1 = false then 8 else if (vs.take i).any (sameName x) = true then 9 else if x.2 < 1 ∨ x.2 > 48 ∨ sumV (vs.take i) + x.2 > 48 then 1 else chkV ((vs.take (i + 1)).map (·.1)) (sumV (vs.take (i + 1))) (vs.drop (i + 1)) := by
  obtain ⟨hlt, e⟩ := List.getElem?_eq_some_iff.1 hx
  rw [List.drop_eq_getElem_cons hlt, e]
  rw [sumV_take_succ hx, List.take_succ_eq_append_getElem hlt, e, List.map_append]
  simp only [chkV, List.any_map, List.map_cons, List.map_nil]
  rfl

theorem checkVars_ret {F : Nat → Prop} {w : World} {x : Value} {vs : List VarT} (h : VarsV F w x vs) (hF : In F w) :
    Ret Tryz.prog 70 [x] w fun r w' => r = .int .i64 (if vs.length > 8 then 3 else chkV [] 0 vs) ∧ Keep [] w w' := by
  obtain ⟨a, cap, rfl⟩ := h.form
  refine ret_of 42 Tryz.func70 rfl rfl (by simp) ?_
  refine au ?_
  by_cases h8 : vs.length > 8
  · refine ye ?_
    refine au ?_
    exact rn_ret Tryz.func70 (.inl ⟨_, rfl, rfl⟩) ⟨by rw [if_pos h8], Keep.refl _ _⟩
  rw [if_neg h8]
  refine nay ?_
  refine au ?_
  refine rn_ind (fun m σ w' => ∃ i : Nat, i ≤ vs.length ∧ m = vs.length - i ∧ σ = [(0, .slice a vs.length cap), (3, .int .i64 (48 - sumV (vs.take i))), (9, .slice a vs.length cap), (10, .int .i64 (vs.length : Nat)), (11, .int .i64 (i : Nat))] ∧
    chkV [] 0 vs = chkV ((vs.take i).map (·.1)) (sumV (vs.take i)) (vs.drop i) ∧ 0 ≤ sumV (vs.take i) ∧ sumV (vs.take i) ≤ 48 ∧ Keep [] w w') vs.length _ ?_ ⟨0, by omega, by omega, rfl, by simp [sumV], by simp [sumV], by simp [sumV], Keep.refl _ _⟩ ?_
  · exact ⟨rfl, rfl, rfl, rfl, rfl, trivial⟩
  rintro m σ w2 ih ⟨i, hi, rfl, rfl, hch, hs0, hs1, hk2⟩
  refine au ?_
  by_cases hlt : i < vs.length
  · refine ye ?_
    refine au ?_
    have hget : vs[i]? = some vs[i] := List.getElem?_eq_getElem hlt
    obtain ⟨nm, sz, hnz⟩ : ∃ nm sz, vs[i] = (nm, sz) := ⟨_, _, rfl⟩
    rw [hnz] at hget
    rw [chkV_at hget] at hch
    have hsu : sumV (vs.take (i + 1)) = sumV (vs.take i) + sz := sumV_take_succ hget
    replace hch : chkV [] 0 vs = if nameOk nm = false then 8 else if (vs.take i).any (sameName (nm, sz)) = true then 9 else if sz < 1 ∨ sz > 48 ∨ sumV (vs.take i) + sz > 48 then 1 else chkV ((vs.take (i + 1)).map (·.1)) (sumV (vs.take (i + 1))) (vs.drop (i + 1)) := hch
    have h2 := h.keep hk2 hF.stays
    have hF2 := hF.keep hk2
    obtain ⟨bb, q, cap', hv, _, hra⟩ := h2.at hget
    cases hv
    refine pl_val _ rfl rfl (val_index i hT rfl rfl rfl rfl rfl hlt w2) ?_
    refine pl_val _ rfl rfl (val_load (vcell (nm, sz)) hT rfl rfl rfl hra) ?_
    refine pl_op rfl rfl (opTo_allocN _ rfl zero_var ?_)
    intro w3 c hc3 hsz3 hk3 hc
    refine au ?_
    refine pl_op rfl rfl (opTo_storeN _ rfl rfl rfl rfl (by kernel_rfl) hc (by simp [vcell, varZ]) (vcell_one _) ?_)
    intro w4 hs4 hk4 hc4
    rw [splice_whole (by rfl)] at hc4
    have hk24 : Keep [] w2 w4 := hk3.trB hk4 (by omega)
    have hkw4 := hk2.tr hk24
    refine au ?_
    refine pl_val _ rfl rfl (val_load1 hT rfl rfl rfl (hc4.cell rfl)) ?_
    refine pl_op rfl rfl (opTo_call rfl rfl rfl rfl (by decide +kernel) ((name_ret nm w4).mono ?_))
    rintro v5 w5 ⟨rfl, rfl⟩
    cases hnm : nameOk nm with
    | false =>
      refine au ?_
      exact rn_ret Tryz.func70 (.inl ⟨_, rfl, rfl⟩) ⟨by rw [hch, if_pos hnm], hkw4⟩
    | true =>
      rw [hnm, if_neg (by simp)] at hch
      refine au ?_
      refine pl_val _ rfl rfl (val_sliceTo i hT rfl rfl rfl rfl rfl ?_ w5) ?_
      · have := h.room; omega
      refine au ?_
      refine pl_op rfl rfl (opTo_call rfl rfl rfl rfl (by decide +kernel) ((contains_ret ((h2.keep hk24 hF2.stays).cut hi) (hF2.keep hk24) hc4 (by rw [List.length_take]; omega)).mono ?_))
      rintro v6 w6 ⟨rfl, hk6⟩
      cases hany : (vs.take i).any (sameName (nm, sz)) with
      | true =>
        refine au ?_
        exact rn_ret Tryz.func70 (.inl ⟨_, rfl, rfl⟩) ⟨by rw [hch, if_pos hany], hkw4.tr hk6⟩
      | false =>
        rw [hany, if_neg (by simp)] at hch
        have hc6 := hk6.blk hc4 (by simp)
        unfold vcell at hc6
        by_cases h1 : sz < 1
        · refine aub ?_
          exact rn_ret Tryz.func70 (.inl ⟨_, rfl, rfl⟩) ⟨by rw [hch, if_pos (.inl h1)], hkw4.tr hk6⟩
        · by_cases h3 : sz > 48 - sumV (vs.take i)
          · refine aub ?_
            exact rn_ret Tryz.func70 (.inl ⟨_, rfl, rfl⟩) ⟨by rw [hch, if_pos (by omega)], hkw4.tr hk6⟩
          · rw [if_neg (by omega)] at hch
            refine aub ?_
            refine pl_num (48 - sumV (vs.take (i + 1))) rfl rfl rfl rfl rfl (by simp only [ariP]; omega) ?_
            refine au ?_
            refine pl_num (((i + 1 : Nat) : Int)) rfl rfl rfl rfl rfl (by simp only [ariP]; omega) ?_
            refine au ?_
            refine rn_sub ?_ (ih (vs.length - (i + 1)) [(0, .slice (some ⟨bb, q, none⟩) vs.length cap), (3, .int .i64 (48 - sumV (vs.take (i + 1)))), (9, .slice (some ⟨bb, q, none⟩) vs.length cap), (10, .int .i64 (vs.length : Nat)), (11, .int .i64 ((i + 1 : Nat) : Int))] w6 (by omega)
              ⟨i + 1, by omega, rfl, rfl, hch, by omega, by omega, hkw4.tr hk6⟩)
            exact ⟨rfl, rfl, rfl, rfl, rfl, trivial⟩
  · refine nay ?_
    refine au ?_
    refine rn_ret Tryz.func70 (.inl ⟨_, rfl, rfl⟩) ⟨?_, hk2⟩
    rw [hch, List.drop_eq_nil_of_le (by omega)]
    rfl
end E
end Go.Proofs.YtmplkogkphmmjafGreat

/- Contracts of Check, Cell, Cells, and of the document's Great. -/
namespace Go.Proofs.YtmplkogkphmmjafGreat
set_option maxRecDepth 20000
set_option maxHeartbeats 4000000
namespace E
open Go.Proofs

theorem zero_int : ((Tryz.prog.info? 3).bind (·.zero)).map (·.cells) = some [Value.int .i64 0].toArray := by kernel_rfl

theorem check_ret {F : Nat → Prop} {w : World} {x : Value} {vs : List VarT} {body : List ST} (h : ProgV F w x vs body) (hF : In F w) (hsz : szSs body ≤ 100000) :
    Ret Tryz.prog 42 [x] w fun r w' => r = .int .i64 (progFault vs body) ∧ Keep [] w w' := by
  obtain ⟨vv, bv, rfl, hv, hb⟩ := h
  obtain ⟨av, capv, rfl⟩ := hv.form
  obtain ⟨ab, capb, rfl⟩ := hb.form
  refine ret_of 15 Tryz.func42 rfl rfl (by simp) ?_
  refine au ?_
  refine pl_op rfl rfl (opTo_boxN [.slice av vs.length capv, .slice ab body.length capb] rfl rfl rfl ?_)
  intro w1 pb hpb hs1 hk1 hb1
  refine au ?_
  refine pl_val _ rfl rfl (val_load1 hT rfl rfl rfl (hb1.cell rfl)) ?_
  refine pl_op rfl rfl (opTo_call rfl rfl rfl rfl (by decide +kernel) ((checkVars_ret (hv.keep hk1 hF.stays) (hF.keep hk1)).mono ?_))
  rintro v2 w2 ⟨rfl, hk2⟩
  have hkw2 := hk1.tr hk2
  refine au ?_
  unfold progFault
  by_cases h8 : vs.length > 8
  · rw [if_pos h8, if_pos h8]
    refine ye ?_
    refine au ?_
    exact rn_ret Tryz.func42 (.inl ⟨_, rfl, rfl⟩) ⟨rfl, hkw2⟩
  rw [if_neg h8, if_neg h8]
  generalize chkV [] 0 vs = cd
  by_cases hz : cd = 0
  · subst hz
    rw [if_neg (by simp)]
    refine nay ?_
    refine au ?_
    refine pl_op rfl rfl (opTo_allocN _ rfl zero_int ?_)
    intro w3 m hm3 hs3 hk3 hm
    refine pl_op rfl rfl (opTo_storeN _ rfl rfl rfl rfl (by kernel_rfl) hm (by simp) (by simp; rfl) ?_)
    intro w4 hs4 hk4 hm4
    rw [splice_whole (by rfl)] at hm4
    have hkw4 : Keep [] w w4 := (hkw2.tr hk3).trB hk4 (by have := hkw2.size; omega)
    have hp4 := hk4.blk (hk3.blk (hk2.blk hb1 (by simp)) (by simp)) (by simp; have := (hk2.blk hb1 (by simp)).lt; omega)
    refine au ?_
    refine pl_val _ rfl rfl (val_load1 hT rfl rfl rfl (hp4.cell rfl)) ?_
    refine au ?_
    refine pl_op rfl rfl (opTo_call rfl rfl rfl rfl (by decide +kernel) ((lookStmts_ret _ body (Nat.lt_succ_self _) hsz 0 0 (hb.keep hkw4 hF.stays) (hF.keep hkw4) (fun h => by have := hF m h; have := hkw2.size; omega) ⟨hm4, hp4⟩ (by omega) (by omega)).mono ?_))
    rintro v5 w5 ⟨rfl, _, hk5⟩
    refine au ?_
    exact rn_ret Tryz.func42 (.inl ⟨_, rfl, rfl⟩) ⟨rfl, hkw4.trB hk5 (by have := hkw2.size; omega)⟩
  · rw [if_pos hz]
    refine ye ?_
    refine au ?_
    exact rn_ret Tryz.func42 (.inl ⟨_, rfl, rfl⟩) ⟨rfl, hkw2⟩

theorem val_min {P : Program} {n : Nat} {σ : Env} {o : Oper} {x y : Operand} {t t' : TypeId} {a b : Int} (r : Int) (ho : o.op = .call { callee := .builtin .min, args := #[x, y], argTypes := #[t, t'] }) (hx : ev σ x = some (.int .i64 a)) (hy : ev σ y = some (.int .i64 b)) (hr : min a b = r) (w : World) : Val P n σ o w (.int .i64 r) := by
  intro ac ha
  subst hr
  have e : (if b < a then b else a) = min a b := by
    split <;> omega
  simp [execOp, ho, resolve, invoke, builtin, Builtin.min_, Builtin.min2, ha.eval hx, ha.eval hy, e]

def Sized (vs : List VarT) : Prop := vs.length ≤ 30 ∧ ∀ x ∈ vs, 0 ≤ x.2 ∧ x.2 ≤ 1000
theorem Sized.sum {vs : List VarT} (h : Sized vs) (i : Nat) (hi : i ≤ vs.length) : 0 ≤ sumV (vs.take i) ∧ sumV (vs.take i) ≤ 1000 * (i : Int) := by
  induction i with
  | zero => simp [sumV]
  | succ i ih =>
    obtain ⟨h1, h2⟩ := ih (by omega)
    have hget : vs[i]? = some vs[i] := List.getElem?_eq_getElem (by omega)
    have h3 := h.2 vs[i] (List.getElem_mem _)
    rw [sumV_take_succ hget]
    omega

theorem cell_ret {F : Nat → Prop} {w : World} {x : Value} {vs : List VarT} {body : List ST} (h : ProgV F w x vs body) (hF : In F w) (hs : Sized vs) (v : Int) :
    Ret Tryz.prog 48 [x, .int .i64 v] w fun r w' => r = .int .i64 (cellOf vs v) ∧ Keep [] w w' := by
  obtain ⟨vv, bv, rfl, hv, hb⟩ := h
  obtain ⟨av, capv, rfl⟩ := hv.form
  obtain ⟨ab, capb, rfl⟩ := hb.form
  have hl30 := hs.1
  refine ret_of 25 Tryz.func48 rfl rfl (by simp) ?_
  refine au ?_
  refine pl_op rfl rfl (opTo_boxN [.slice av vs.length capv, .slice ab body.length capb] rfl rfl rfl ?_)
  intro w1 pb hpb hs1 hk1 hb1
  refine au ?_
  refine pl_val _ rfl rfl (val_load1 hT rfl rfl rfl (hb1.cell rfl)) ?_
  refine au ?_
  refine pl_val _ rfl rfl (val_min (min v (vs.length : Nat)) rfl rfl rfl rfl w1) ?_
  refine au ?_
  refine rn_ind (fun q σ w' => ∃ i : Nat, i ≤ vs.length ∧ ((i : Int) ≤ v ∨ i = 0) ∧ q = vs.length - i ∧ σ = [(2, .pointer (some ⟨pb, 0, none⟩)), (5, .int .i64 (sumV (vs.take i))), (11, .int .i64 (min v (vs.length : Nat))), (12, .int .i64 (i : Nat))] ∧ w' = w1) vs.length _ ?_ ⟨0, by omega, by omega, by omega, rfl, rfl⟩ ?_
  · exact ⟨rfl, rfl, rfl, rfl, trivial⟩
  rintro q σ w2 ih ⟨i, hi, hiv, rfl, rfl, rfl⟩
  refine au ?_
  by_cases hlt : (i : Int) < min v (vs.length : Nat)
  · refine ye ?_
    refine au ?_
    refine pl_val _ rfl rfl (val_load1 hT rfl rfl rfl (hb1.cell rfl)) ?_
    refine au ?_
    have hl : i < vs.length := by omega
    have hget : vs[i]? = some vs[i] := List.getElem?_eq_getElem hl
    have hsu := sumV_take_succ hget
    have hb2 := hs.sum (i + 1) (by omega)
    obtain ⟨bb, q, cap', hv', _, hra⟩ := (hv.keep hk1 hF.stays).at hget
    cases hv'
    refine pl_val _ rfl rfl (val_index i hT rfl rfl rfl rfl rfl hl w2) ?_
    refine au ?_
    refine pl_val _ rfl rfl (val_load1 hT rfl rfl rfl (hra 1 (.int .i64 vs[i].2) rfl)) ?_
    refine pl_num (sumV (vs.take (i + 1))) rfl rfl rfl rfl rfl (by simp only [ariP]; omega) ?_
    refine au ?_
    refine pl_num (((i + 1 : Nat) : Int)) rfl rfl rfl rfl rfl (by simp only [ariP]; omega) ?_
    refine au ?_
    refine rn_sub ?_ (ih (vs.length - (i + 1)) [(2, .pointer (some ⟨pb, 0, none⟩)), (5, .int .i64 (sumV (vs.take (i + 1)))), (11, .int .i64 (min v (vs.length : Nat))), (12, .int .i64 ((i + 1 : Nat) : Int))] w2 (by omega) ⟨i + 1, by omega, by omega, rfl, rfl, rfl⟩)
    exact ⟨rfl, rfl, rfl, rfl, trivial⟩
  · refine nay ?_
    refine au ?_
    refine rn_ret Tryz.func48 (.inl ⟨_, rfl, rfl⟩) ⟨?_, hk1⟩
    unfold cellOf
    rcases Nat.lt_or_ge i vs.length with h' | h'
    · rw [show v.toNat = i by omega]
    · rw [List.take_of_length_le (by omega), List.take_of_length_le (by omega)]

theorem cells_ret {F : Nat → Prop} {w : World} {x : Value} {vs : List VarT} {body : List ST} (h : ProgV F w x vs body) (hF : In F w) (hs : Sized vs) :
    Ret Tryz.prog 26 [x] w fun r w' => r = .int .i64 (cellOf vs (vs.length : Nat)) ∧ Keep [] w w' := by
  obtain ⟨vv, bv, rfl, hv, hb⟩ := h
  obtain ⟨av, capv, rfl⟩ := hv.form
  obtain ⟨ab, capb, rfl⟩ := hb.form
  refine ret_of 8 Tryz.func26 rfl rfl (by simp) ?_
  refine au ?_
  refine pl_op rfl rfl (opTo_boxN [.slice av vs.length capv, .slice ab body.length capb] rfl rfl rfl ?_)
  intro w1 pb hpb hs1 hk1 hb1
  refine au ?_
  refine pl_val _ rfl rfl (val_load [.slice av vs.length capv, .slice ab body.length capb] hT rfl rfl rfl (hb1.range (by rfl))) ?_
  refine au ?_
  refine pl_val _ rfl rfl (val_load1 hT rfl rfl rfl (hb1.cell rfl)) ?_
  refine au ?_
  refine pl_op rfl rfl (opTo_call rfl rfl rfl rfl (by decide +kernel) ((cell_ret (F := F) ⟨_, _, rfl, hv.keep hk1 hF.stays, hb.keep hk1 hF.stays⟩ (hF.keep hk1) hs (vs.length : Nat)).mono ?_))
  rintro v2 w2 ⟨rfl, hk2⟩
  refine au ?_
  exact rn_ret Tryz.func26 (.inl ⟨_, rfl, rfl⟩) ⟨rfl, hk1.tr hk2⟩

theorem great_ret {F : Nat → Prop} {w : World} {x : Value} {vs : List VarT} {body : List ST} (h : ProgV F w x vs body) (hF : In F w) :
    Ret Tryz.prog 22 [x] w fun r w' => (∃ g : Bool, r = .bool g ∧ (g = false → vs.length ≤ 30 ∧ (∀ y ∈ vs, y.1.size ≤ 100) ∧ szSs body ≤ 900)) ∧ Keep [] w w' := by
  obtain ⟨vv, bv, rfl, hv, hb⟩ := h
  obtain ⟨av, capv, rfl⟩ := hv.form
  obtain ⟨ab, capb, rfl⟩ := hb.form
  refine ret_of 33 Tryz.func22 rfl rfl (by simp) ?_
  refine au ?_
  refine pl_op rfl rfl (opTo_boxN [.slice av vs.length capv, .slice ab body.length capb] rfl rfl rfl ?_)
  intro w1 pb hpb hs1 hk1 hb1
  refine au ?_
  refine rn_ind (fun q σ w' => ∃ i : Nat, i ≤ vs.length ∧ i ≤ 30 ∧ q = vs.length - i ∧ σ = [(1, .pointer (some ⟨pb, 0, none⟩)), (3, .int .i64 (i : Nat))] ∧ (∀ y ∈ vs.take i, y.1.size ≤ 100) ∧ w' = w1) vs.length _ ?_ ⟨0, by omega, by omega, by omega, rfl, by simp, rfl⟩ ?_
  · exact ⟨rfl, rfl, trivial⟩
  rintro q σ w2 ih ⟨i, hi, hi30, rfl, rfl, hall, rfl⟩
  refine au ?_
  refine pl_val _ rfl rfl (val_load1 hT rfl rfl rfl (hb1.cell rfl)) ?_
  refine au ?_
  by_cases hlt : i < vs.length
  · refine ye ?_
    refine au ?_
    by_cases h30 : i < 30
    · refine ye ?_
      refine au ?_
      refine pl_val _ rfl rfl (val_load1 hT rfl rfl rfl (hb1.cell rfl)) ?_
      refine au ?_
      have hget : vs[i]? = some vs[i] := List.getElem?_eq_getElem hlt
      obtain ⟨bb, q, cap', hv', _, hra⟩ := (hv.keep hk1 hF.stays).at hget
      cases hv'
      refine pl_val _ rfl rfl (val_index i hT rfl rfl rfl rfl rfl hlt w2) ?_
      refine au ?_
      refine pl_val _ rfl rfl (val_load1 hT rfl rfl rfl (hra 0 (.string vs[i].1) rfl)) ?_
      refine pl_val _ rfl rfl (val_strLen vs[i].1 (by decide +kernel) rfl rfl w2) ?_
      by_cases h100 : vs[i].1.size > 100
      · refine ye ?_
        refine au ?_
        exact rn_ret Tryz.func22 (.inl ⟨_, rfl, rfl⟩) ⟨⟨true, rfl, fun h => by cases h⟩, hk1⟩
      · refine nay ?_
        refine au ?_
        refine pl_num (((i + 1 : Nat) : Int)) rfl rfl rfl rfl rfl (by simp only [ariP]; omega) ?_
        refine au ?_
        refine rn_sub ?_ (ih (vs.length - (i + 1)) [(1, .pointer (some ⟨pb, 0, none⟩)), (3, .int .i64 ((i + 1 : Nat) : Int))] w2 (by omega) ⟨i + 1, by omega, by omega, rfl, rfl, ?_, rfl⟩)
        · exact ⟨rfl, rfl, trivial⟩
        · intro y hy
          rw [List.take_succ_eq_append_getElem hlt] at hy
          rcases List.mem_append.1 hy with hy | hy
          · exact hall y hy
          · simp at hy
            subst hy
            omega
    · refine nay ?_
      refine au ?_
      refine pl_val _ rfl rfl (val_load1 hT rfl rfl rfl (hb1.cell rfl)) ?_
      refine au ?_
      refine ye ?_
      refine au ?_
      exact rn_ret Tryz.func22 (.inl ⟨_, rfl, rfl⟩) ⟨⟨true, rfl, fun h => by cases h⟩, hk1⟩
  · refine nay ?_
    refine au ?_
    refine pl_val _ rfl rfl (val_load1 hT rfl rfl rfl (hb1.cell rfl)) ?_
    refine au ?_
    refine nay ?_
    refine au ?_
    refine pl_val _ rfl rfl (val_load1 hT rfl rfl rfl (hb1.cell rfl)) ?_
    refine pl_op rfl rfl (opTo_call rfl rfl rfl rfl (by decide +kernel) ((stmtParts_ret _ body (Nat.lt_succ_self _) 900 (hb.keep hk1 hF.stays) (hF.keep hk1) (by omega)).mono ?_))
    rintro v3 w3 ⟨c, rfl, ⟨hc1, hc2, hc3⟩, hk3⟩
    refine pl_val (.bool (decide (c > 900))) rfl rfl (val_int .i64 _ _ _ rfl rfl rfl (by simp only [intOp]; congr 2; simp; omega) w3) ?_
    refine au ?_
    refine rn_ret Tryz.func22 (.inl ⟨_, rfl, rfl⟩) ⟨⟨_, rfl, fun h => ?_⟩, hk1.tr hk3⟩
    rw [List.take_of_length_le (by omega)] at hall
    refine ⟨by omega, hall, ?_⟩
    simp at h
    omega
end E
end Go.Proofs.YtmplkogkphmmjafGreat

/- Contracts of the document's small functions on programs: what a kind has, what a name is, cells, the zero expression. -/
namespace Go.Proofs.YtmplkogkphmmjafGreat
set_option maxRecDepth 20000
set_option maxHeartbeats 4000000
namespace E
open Go.Proofs

theorem zeroExpr_ret {F : Nat → Prop} {w : World} {cs : List Value} {t : ET} (h : ExprV F w cs t) : Ret Tryz.prog 55 [.agg cs.toArray] w fun v w' => v = .bool (zeroE t) ∧ Keep [] w w' := by
  obtain ⟨op, v, n, l⟩ := t
  obtain ⟨lv, rfl, hl⟩ := h.inv
  obtain ⟨a, cap, rfl⟩ := hl.form
  refine ret_of 22 Tryz.func55 rfl rfl (by simp) ?_
  refine au ?_
  refine pl_op rfl rfl (opTo_box [.int .i64 op, .int .i64 v, .int .i64 n, .slice a l.length cap] rfl rfl rfl ?_)
  have hk0 : Keep [] w (w.alloc (.cells [.int .i64 op, .int .i64 v, .int .i64 n, .slice a l.length cap].toArray 94)) := (Keep.refl _ _).alloc _
  have hb0 : Blk (w.alloc (.cells [.int .i64 op, .int .i64 v, .int .i64 n, .slice a l.length cap].toArray 94)) w.heap.size [.int .i64 op, .int .i64 v, .int .i64 n, .slice a l.length cap] 94 := Blk.new _ _ _
  generalize (w.alloc (.cells [.int .i64 op, .int .i64 v, .int .i64 n, .slice a l.length cap].toArray 94)) = w1 at *
  generalize w.heap.size = b at *
  rw [zeroE_eq]
  by_cases h1 : op = 0
  · by_cases h2 : v = 0
    · by_cases h3 : n = 0
      · by_cases h4 : l.length = 0
        · refine aub ?_
          exact rn_ret Tryz.func55 (.inl ⟨_, rfl, rfl⟩) ⟨by simp [h1, h2, h3, h4], hk0⟩
        · refine aub ?_
          exact rn_ret Tryz.func55 (.inl ⟨_, rfl, rfl⟩) ⟨by simp [h1, h2, h3, h4], hk0⟩
      · refine aub ?_
        exact rn_ret Tryz.func55 (.inl ⟨_, rfl, rfl⟩) ⟨by simp [h1, h2, h3], hk0⟩
    · refine aub ?_
      exact rn_ret Tryz.func55 (.inl ⟨_, rfl, rfl⟩) ⟨by simp [h1, h2], hk0⟩
  · refine aub ?_
    exact rn_ret Tryz.func55 (.inl ⟨_, rfl, rfl⟩) ⟨by simp [h1], hk0⟩
theorem partsOf_ret (op : Int) (w : World) : Ret Tryz.prog 81 [.int .i64 op] w fun v w' => v = .int .i64 (partsOf op) ∧ w' = w := by
  refine ret_of 15 Tryz.func81 rfl rfl (by simp) ?_
  have h : (op = 1 ∨ op = 2 ∨ op = 3 ∨ op = 4 ∨ op = 5) ∨ (op = 6 ∨ op = 7 ∨ op = 8 ∨ (op < 1 ∨ op > 8)) := by omega
  rcases h with (h | h | h | h | h) | (h | h | h | h) <;> (refine aub ?_; refine rn_ret Tryz.func81 (.inl ⟨_, rfl, rfl⟩) ⟨?_, rfl⟩; congr 1; (unfold partsOf; repeat' split) <;> omega)
def needsB (op : Int) : ByteArray := if op = 1 then ⟨#[101, 118]⟩ else if op = 2 then ⟨#[101, 102, 118]⟩ else if op = 3 then ⟨#[101]⟩ else if op = 4 then ⟨#[118]⟩ else if op = 5 then ⟨#[101, 98]⟩ else if op = 6 then ⟨#[101, 98, 111]⟩ else ⟨#[]⟩
theorem needs_ret (op : Int) (w : World) : Ret Tryz.prog 80 [.int .i64 op] w fun v w' => v = .string (needsB op) ∧ w' = w := by
  refine ret_of 16 Tryz.func80 rfl rfl (by simp) ?_
  have h : op = 1 ∨ op = 2 ∨ op = 3 ∨ op = 4 ∨ op = 5 ∨ op = 6 ∨ (op ≠ 1 ∧ op ≠ 2 ∧ op ≠ 3 ∧ op ≠ 4 ∧ op ≠ 5 ∧ op ≠ 6) := by omega
  rcases h with h | h | h | h | h | h | h
  · subst h; refine aub ?_; exact rn_ret Tryz.func80 (.inl ⟨_, rfl, rfl⟩) ⟨rfl, rfl⟩
  · subst h; refine aub ?_; exact rn_ret Tryz.func80 (.inl ⟨_, rfl, rfl⟩) ⟨rfl, rfl⟩
  · subst h; refine aub ?_; exact rn_ret Tryz.func80 (.inl ⟨_, rfl, rfl⟩) ⟨rfl, rfl⟩
  · subst h; refine aub ?_; exact rn_ret Tryz.func80 (.inl ⟨_, rfl, rfl⟩) ⟨rfl, rfl⟩
  · subst h; refine aub ?_; exact rn_ret Tryz.func80 (.inl ⟨_, rfl, rfl⟩) ⟨rfl, rfl⟩
  · subst h; refine aub ?_; exact rn_ret Tryz.func80 (.inl ⟨_, rfl, rfl⟩) ⟨rfl, rfl⟩
  · refine aub ?_
    exact rn_ret Tryz.func80 (.inl ⟨_, rfl, rfl⟩) ⟨by simp [needsB, h], rfl⟩

def needC (op : Int) (c : Nat) : Bool := (needsB op).data.toList.any fun x => x.toNat == c
theorem needsB_size (op : Int) : (needsB op).size ≤ 3 := by
  unfold needsB
  repeat' split
  all_goals decide
theorem needed_ret (op : Int) (c : Nat) (w : World) : Ret Tryz.prog 54 [.int .i64 op, .int .u8 (c : Nat)] w fun v w' => v = .bool (needC op c) ∧ w' = w := by
  refine ret_of 20 Tryz.func54 rfl rfl (by simp) ?_
  refine au ?_
  refine pl_op rfl rfl (opTo_call rfl rfl rfl rfl (by decide +kernel) ((needs_ret op w).mono ?_))
  rintro v1 w1 ⟨rfl, rfl⟩
  have h3 := needsB_size op
  unfold needC
  generalize needsB op = s at *
  have hsz : s.data.toList.length = s.size := by simp
  refine au ?_
  refine rn_ind (fun m σ w' => ∃ i : Nat, i ≤ s.size ∧ m = s.size - i ∧ σ = [(1, .int .u8 (c : Nat)), (5, .string s), (6, .int .i64 (i : Nat))] ∧ (s.data.toList.take i).any (fun x => x.toNat == c) = false ∧ w' = w1) s.size _ ?_ ⟨0, by omega, by omega, rfl, by simp, rfl⟩ ?_
  · exact ⟨rfl, rfl, rfl, trivial⟩
  rintro m σ w2 ih ⟨i, hi, rfl, rfl, hany, rfl⟩
  refine au ?_
  refine pl_val _ rfl rfl (val_strLen s (by decide +kernel) rfl rfl w2) ?_
  by_cases hlt : i < s.size
  · refine ye ?_
    refine au ?_
    have hat := str_at hlt
    have hx : s.data.toList[i]? = some (s.data.toList[i]'(by omega)) := List.getElem?_eq_getElem _
    have hsu : (s.data.toList.take (i + 1)).any (fun x => x.toNat == c) = ((s.data.toList[i]'(by omega)).toNat == c) := by
      rw [List.take_succ_eq_append_getElem (by omega), List.any_append, hany]
      simp
    have htr : ((s.data.toList[i]'(by omega)).toNat == c) = true → s.data.toList.any (fun x => x.toNat == c) = true := fun h => List.any_eq_true.2 ⟨_, List.getElem_mem _, h⟩
    generalize s.data.toList[i]'(by omega) = x at *
    refine pl_val _ rfl rfl (val_strAt s i x (by decide +kernel) rfl rfl rfl rfl hat w2) ?_
    refine au ?_
    by_cases hc : x.toNat = c
    · refine ye ?_
      refine au ?_
      exact rn_ret Tryz.func54 (.inl ⟨_, rfl, rfl⟩) ⟨by rw [htr (by simpa using hc)], rfl⟩
    · refine nay ?_
      refine au ?_
      refine pl_num (((i + 1 : Nat) : Int)) rfl rfl rfl rfl rfl (by simp only [ariP]; omega) ?_
      refine au ?_
      refine rn_sub ?_ (ih (s.size - (i + 1)) [(1, .int .u8 (c : Nat)), (5, .string s), (6, .int .i64 ((i + 1 : Nat) : Int))] w2 (by omega) ⟨i + 1, by omega, rfl, rfl, by rw [hsu]; simpa using hc, rfl⟩)
      exact ⟨rfl, rfl, rfl, trivial⟩
  · refine nay ?_
    refine au ?_
    refine rn_ret Tryz.func54 (.inl ⟨_, rfl, rfl⟩) ⟨?_, rfl⟩
    rw [List.take_of_length_le (by omega)] at hany
    rw [hany]

theorem needC_all (op : Int) : needC op 101 = needE op ∧ needC op 102 = needF op ∧ needC op 118 = needV op ∧ needC op 98 = needB op ∧ needC op 111 = needO op := by
  have h : op = 1 ∨ op = 2 ∨ op = 3 ∨ op = 4 ∨ op = 5 ∨ op = 6 ∨ (op ≠ 1 ∧ op ≠ 2 ∧ op ≠ 3 ∧ op ≠ 4 ∧ op ≠ 5 ∧ op ≠ 6) := by omega
  rcases h with h | h | h | h | h | h | h
  · subst h; decide +kernel
  · subst h; decide +kernel
  · subst h; decide +kernel
  · subst h; decide +kernel
  · subst h; decide +kernel
  · subst h; decide +kernel
  · have e : needsB op = ⟨#[]⟩ := by simp [needsB, h]
    simp [needC, e, needE, needF, needV, needB, needO, h]

theorem nameText_ret (s : ByteArray) (hs : s.size ≤ 100000) (w : World) : Ret Tryz.prog 28 [.string s] w fun v w' => v = .bool (nameOk s) ∧ w' = w := by
  refine ret_of 28 Tryz.func28 rfl rfl (by simp) ?_
  have hsz : s.data.toList.length = s.size := by simp
  refine au ?_
  refine rn_ind (fun m σ w' => ∃ i : Nat, i ≤ s.size ∧ m = s.size - i ∧ σ = [(0, .string s), (3, .int .i64 (i : Nat))] ∧ (s.data.toList.take i).all letter = true ∧ w' = w) s.size _ ?_ ⟨0, by omega, by omega, rfl, by simp, rfl⟩ ?_
  · exact ⟨rfl, rfl, trivial⟩
  rintro m σ w2 ih ⟨i, hi, rfl, rfl, hall, rfl⟩
  refine au ?_
  refine pl_val _ rfl rfl (val_strLen s (by decide +kernel) rfl rfl w2) ?_
  by_cases hlt : i < s.size
  · refine ye ?_
    refine au ?_
    have hat := str_at hlt
    have hsu := all_take_succ (l := s.data.toList) (i := i) (by omega)
    have hf := all_take_false (l := s.data.toList) (i := i) (by omega)
    generalize s.data.toList[i]'(by omega) = c at *
    refine pl_val _ rfl rfl (val_strAt s i c (by decide +kernel) rfl rfl rfl rfl hat w2) ?_
    by_cases h3 : c.toNat < 97
    · refine aub ?_
      refine rn_ret Tryz.func28 (.inl ⟨_, rfl, rfl⟩) ⟨?_, rfl⟩
      rw [nameOk, hf (by simp [letter]; omega)]
      rfl
    · refine aub ?_
      refine pl_val _ rfl rfl (val_strAt s i c (by decide +kernel) rfl rfl rfl rfl hat w2) ?_
      by_cases h4 : c.toNat > 122
      · refine aub ?_
        refine rn_ret Tryz.func28 (.inl ⟨_, rfl, rfl⟩) ⟨?_, rfl⟩
        rw [nameOk, hf (by simp [letter]; omega)]
        rfl
      · refine aub ?_
        refine pl_num (((i + 1 : Nat) : Int)) rfl rfl rfl rfl rfl (by simp only [ariP]; omega) ?_
        refine au ?_
        refine rn_sub ?_ (ih (s.size - (i + 1)) [(0, .string s), (3, .int .i64 ((i + 1 : Nat) : Int))] w2 (by omega) ⟨i + 1, by omega, rfl, rfl, ?_, rfl⟩)
        · exact ⟨rfl, rfl, trivial⟩
        · rw [hsu, hall]
          simp [letter]
          omega
  · refine nay ?_
    refine au ?_
    refine pl_val _ rfl rfl (val_strLen s (by decide +kernel) rfl rfl w2) ?_
    rw [List.take_of_length_le (by omega)] at hall
    by_cases h1 : s.size ≥ 1
    · refine aub ?_
      refine pl_val _ rfl rfl (val_strLen s (by decide +kernel) rfl rfl w2) ?_
      by_cases h8 : s.size ≤ 8
      · refine aub ?_
        refine rn_ret Tryz.func28 (.inl ⟨_, rfl, rfl⟩) ⟨?_, rfl⟩
        have e1 : 1 ≤ s.size := h1
        simp only [nameOk, hall, e1, h8, decide_true, Bool.and_self]
      · refine aub ?_
        refine rn_ret Tryz.func28 (.inl ⟨_, rfl, rfl⟩) ⟨?_, rfl⟩
        simp [nameOk, h8]
    · refine aub ?_
      refine rn_ret Tryz.func28 (.inl ⟨_, rfl, rfl⟩) ⟨?_, rfl⟩
      have e1 : ¬ 1 ≤ s.size := h1
      simp [nameOk, e1]
theorem refCell_ret {F : Nat → Prop} {w : World} {x : Value} {vs : List VarT} {body : List ST} (h : ProgV F w x vs body) (hF : In F w) (hs : Sized vs) (v : Int) :
    Ret Tryz.prog 31 [x, .int .i64 v] w fun r w' => r = .int .i64 (cellOf vs v) ∧ Keep [] w w' := by
  obtain ⟨vv, bv, rfl, hv, hb⟩ := h
  obtain ⟨av, capv, rfl⟩ := hv.form
  obtain ⟨ab, capb, rfl⟩ := hb.form
  have hl30 := hs.1
  refine ret_of 28 Tryz.func31 rfl rfl (by simp) ?_
  refine au ?_
  refine pl_op rfl rfl (opTo_boxN [.slice av vs.length capv, .slice ab body.length capb] rfl rfl rfl ?_)
  intro w1 pb hpb hs1 hk1 hb1
  refine au ?_
  refine rn_ind (fun q σ w' => ∃ i : Nat, i ≤ vs.length ∧ ((i : Int) ≤ v ∨ i = 0) ∧ q = vs.length - i ∧ σ = [(1, .int .i64 v), (2, .pointer (some ⟨pb, 0, none⟩)), (5, .int .i64 (sumV (vs.take i))), (6, .int .i64 (i : Nat))] ∧ w' = w1) vs.length _ ?_ ⟨0, by omega, by omega, by omega, rfl, rfl⟩ ?_
  · exact ⟨rfl, rfl, rfl, rfl, trivial⟩
  rintro q σ w2 ih ⟨i, hi, hiv, rfl, rfl, rfl⟩
  refine au ?_
  by_cases hlt : (i : Int) < v
  · by_cases hl : i < vs.length
    · have hget : vs[i]? = some vs[i] := List.getElem?_eq_getElem hl
      have hsu := sumV_take_succ hget
      have hb2 := hs.sum (i + 1) (by omega)
      obtain ⟨bb, q, cap', hv', _, hra⟩ := (hv.keep hk1 hF.stays).at hget
      cases hv'
      refine aub ?_
      refine pl_val _ rfl rfl (val_index i hT rfl rfl rfl rfl rfl hl w2) ?_
      refine au ?_
      refine pl_val _ rfl rfl (val_load1 hT rfl rfl rfl (hra 1 (.int .i64 vs[i].2) rfl)) ?_
      refine pl_num (sumV (vs.take (i + 1))) rfl rfl rfl rfl rfl (by simp only [ariP]; omega) ?_
      refine au ?_
      refine pl_num (((i + 1 : Nat) : Int)) rfl rfl rfl rfl rfl (by simp only [ariP]; omega) ?_
      refine au ?_
      refine rn_sub ?_ (ih (vs.length - (i + 1)) [(1, .int .i64 v), (2, .pointer (some ⟨pb, 0, none⟩)), (5, .int .i64 (sumV (vs.take (i + 1)))), (6, .int .i64 ((i + 1 : Nat) : Int))] w2 (by omega) ⟨i + 1, by omega, by omega, rfl, rfl, rfl⟩)
      exact ⟨rfl, rfl, rfl, rfl, trivial⟩
    · refine aub ?_
      refine rn_ret Tryz.func31 (.inl ⟨_, rfl, rfl⟩) ⟨?_, hk1⟩
      unfold cellOf
      rw [List.take_of_length_le (by omega), List.take_of_length_le (by omega)]
  · refine aub ?_
    refine rn_ret Tryz.func31 (.inl ⟨_, rfl, rfl⟩) ⟨?_, hk1⟩
    unfold cellOf
    rw [show v.toNat = i by omega]
end E
end Go.Proofs.YtmplkogkphmmjafGreat

/- Contracts of the document's instructions: exprCode, listCode, stmtCode, CodeOf. -/
namespace Go.Proofs.YtmplkogkphmmjafGreat
set_option maxRecDepth 20000
set_option maxHeartbeats 4000000
namespace E
open Go.Proofs

theorem built_ri03 (a n : Int) : Tryz.prog.built tRI [(0, .int .i64 a), (3, .int .i64 n)] = some (iC (a, 0, 0, n)).toArray := by kernel_rfl
theorem built_ri0 (a : Int) : Tryz.prog.built tRI [(0, .int .i64 a)] = some (iC (a, 0, 0, 0)).toArray := by kernel_rfl
theorem built_ri1 (a b : Int) : Tryz.prog.built tRI [(0, .int .i64 a), (1, .int .i64 b)] = some (iC (a, b, 0, 0)).toArray := by kernel_rfl
theorem built_ri2 (a b c : Int) : Tryz.prog.built tRI [(0, .int .i64 a), (1, .int .i64 b), (2, .int .i64 c)] = some (iC (a, b, c, 0)).toArray := by kernel_rfl
theorem zero_ri : ((Tryz.prog.info? tRI).bind (·.zero)).map (·.cells) = some (iC (0, 0, 0, 0)).toArray := by kernel_rfl
theorem size_ri : sizeOk Tryz.prog tRI 4 = true := by kernel_rfl
theorem slice_ri (x : Is) : sliceCells Tryz.prog 77 1 [(0, .agg (iC x).toArray)] = some (tRI, (iC x).toArray) := by
  obtain ⟨a, b, c, d⟩ := x
  kernel_rfl
theorem app_ri : appOk Tryz.prog 77 tRI 4 32 = true := by decide +kernel
theorem ins_one {w : World} {b e : Nat} {x : Is} (hb : Blk w b (iC x) e) : InsV (fun c => c = b) w (.slice (some ⟨b, 0, none⟩) 1 1) [x] :=
  ⟨_, 1, rfl, fun _ => ⟨b, 0, rfl, rfl, hb.range (by simp [isC, iC])⟩⟩
theorem row_keep {e : Nat} {w w' w2 : World} {v : Value} {l : List Is} (h : RowI e w w2.heap.size v l) (hk : Keep [] w2 w) (hk' : Keep v.ownBlock.toList w w') : Keep [] w2 w' := hk.trans hk' fun k hm => .inr (h.own k hm).1

theorem exprCode_ret {vs : List VarT} {bd : List ST} (hs : Sized vs) {av ab : Option Addr} {capv capb : Nat} : ∀ (s : Nat) (t : ET), szE t < s → szE t ≤ 100000 → gdE vs.length t → ∀ {F : Nat → Prop} {w : World} {cs : List Value}, ProgV F w (.agg #[.slice av vs.length capv, .slice ab bd.length capb]) vs bd → ExprV F w cs t → In F w →
    Ret Tryz.prog 109 [.agg #[.slice av vs.length capv, .slice ab bd.length capb], .agg cs.toArray] w fun r w' => RowI tRI w' w.heap.size r (insE vs t) ∧ Keep [] w w' := by
  intro s
  induction s with
  | zero => intro t ht; omega
  | succ s ihs =>
    intro t ht ht3 hgd F w cs hp hX hF
    obtain ⟨op, v, n, l⟩ := t
    obtain ⟨lv, rfl, hE⟩ := hX.inv
    obtain ⟨a, cap, rfl⟩ := hE.form
    obtain ⟨hg1, hg2⟩ := hgd
    simp only [szE] at ht ht3
    have hlen := szEs_len l
    have hil := insEs_len vs l
    refine ret_of 57 Tryz.func109 rfl rfl (by simp) ?_
    refine au ?_
    refine pl_op rfl rfl (opTo_boxN [.slice av vs.length capv, .slice ab bd.length capb] rfl rfl rfl ?_)
    intro w1 x1 hx1 hs1 hk1 hX1'
    refine pl_op rfl rfl (opTo_boxN [.int .i64 op, .int .i64 v, .int .i64 n, .slice a l.length cap] rfl rfl rfl ?_)
    intro w2 x2 hx2 hs2 hk2 hX2
    have hX1 := hk2.blk hX1' (by simp)
    have hk := hk1.tr hk2
    have hp2 := hp.keep hk hF.stays
    have hE2 := hE.keep hk hF.stays
    have hF2 := hF.keep hk
    have hsz2 : w.heap.size ≤ w2.heap.size := hk.size
    clear hX1' hk1 hk2
    refine au ?_
    refine rn_ind (fun m σ w' => ∃ (i : Nat) (rv : Value), i ≤ l.length ∧ m = l.length - i ∧ σ = [(2, .pointer (some ⟨x1, 0, none⟩)), (3, .pointer (some ⟨x2, 0, none⟩)), (5, rv), (6, .int .i64 (i : Nat))] ∧ RowI tRI w' w2.heap.size rv (insEs vs (l.take i)) ∧ Keep [] w2 w') l.length _ ?_ ⟨0, _, by omega, by omega, rfl, RowI.nil _ _ _, Keep.refl _ _⟩ ?_
    · exact ⟨rfl, rfl, rfl, rfl, trivial⟩
    rintro m σ w6 ih ⟨i, rv, hi, rfl, rfl, hrow, hk6⟩
    have hX16 := hk6.blk hX1 (by simp)
    have hX26 := hk6.blk hX2 (by simp)
    refine au ?_
    refine pl_val _ rfl rfl (val_load1 hT rfl rfl rfl (hX26.cell rfl)) ?_
    refine au ?_
    by_cases hlt : i < l.length
    · refine ye ?_
      have hxi : l[i]? = some l[i] := List.getElem?_eq_getElem hlt
      have hszi := szEs_succ hxi
      have hszt := szEs_take l (i + 1)
      have hl1 := insEs_len vs (l.take i)
      have hl2 := insE_len vs l[i]
      have htk := insEs_take vs hxi
      obtain ⟨ra, rc, hrv⟩ := hrow.form
      obtain ⟨b1, q1, c1, ci, hv1, hF1, hr1, hc1⟩ := hE2.at hxi
      cases hv1
      refine au ?_
      refine rn_draw (fun w' => Keep [] w6 w') [8] hMix ?_
      have hS : Keep [] w6 w6.drew := (Keep.refl _ _).drew
      generalize w6.drew = w7 at *
      refine tk 0 ?_
      refine dr_val 1 (.agg #[.slice av vs.length capv, .slice ab bd.length capb]) rfl (by decide +kernel) rfl rfl (fun w9 hS9 => val_load [.slice av vs.length capv, .slice ab bd.length capb] hT rfl rfl rfl ((hS9.blk hX16 (by simp)).range (by rfl))) hS ?_
      refine tk 2 ?_
      refine dr_val 3 _ rfl (by decide +kernel) rfl rfl (fun w9 hS9 => val_load1 hT rfl rfl rfl ((hS9.blk hX26 (by simp)).cell rfl)) hS ?_
      refine tk 4 ?_
      refine dr_any 5 _ rfl (by decide +kernel) rfl rfl (fun w => val_index i hT rfl rfl rfl rfl rfl hlt w) ?_
      refine dr_val 6 (.agg ci.toArray) rfl (by decide +kernel) rfl rfl (fun w9 hS9 => val_load ci hT rfl rfl (by rw [hc1.length]; rfl) (range_keep hr1 (hk6.tr hS9) (hF2 _ hF1) (by simp))) hS ?_
      have hk27 := hk6.tr hS
      refine dr_op 7 rfl (by decide +kernel) rfl rfl (opTo_call (fst := []) (cap := []) rfl rfl rfl rfl (by decide +kernel) ((ihs l[i] (by omega) (by omega) (gdEs_at hg2 hxi) (hp2.keep hk27 hF2.stays) (hc1.keep hk27 hF2.stays) (hF2.keep hk27)).mono ?_))
      rintro r w8 ⟨hrow8, hk8⟩
      refine ⟨fun _ => hS.tr hk8, ?_⟩
      have hrv8 := hrow.keep0 (hS.tr hk8)
      have hk28 := hk27.tr hk8
      refine dr_op 8 rfl (by decide +kernel) rfl rfl (opTo_rowApp (insEs vs (l.take i)) (insE vs l[i]) rfl rfl rfl app_ri hrv8 hrow8.ins (by omega) hk28.size ?_)
      intro v9 w9 hrow9 hk9
      refine ⟨fun h => absurd (by simp) h, ?_⟩
      refine tk 9 ?_
      refine dr_done (by decide +kernel) ?_
      refine au ?_
      refine pl_num (((i + 1 : Nat) : Int)) rfl rfl rfl rfl rfl (by simp only [ariP]; omega) ?_
      refine au ?_
      refine rn_sub ?_ (ih (l.length - (i + 1)) [(2, .pointer (some ⟨x1, 0, none⟩)), (3, .pointer (some ⟨x2, 0, none⟩)), (5, v9), (6, .int .i64 ((i + 1 : Nat) : Int))] w9 (by omega) ⟨i + 1, v9, by omega, rfl, rfl, ?_, row_keep hrv8 hk28 hk9⟩)
      · exact ⟨rfl, rfl, rfl, rfl, trivial⟩
      · rw [htk]; exact hrow9
    · refine nay ?_
      rw [List.take_of_length_le (by omega)] at hrow
      refine au ?_
      refine pl_val _ rfl rfl (val_load1 hT rfl rfl rfl (hX26.cell rfl)) ?_
      refine au ?_
      refine pl_val _ rfl rfl (val_load1 hT rfl rfl rfl (hX26.cell rfl)) ?_
      refine pl_val _ rfl rfl (val_build _ rfl rfl (built_ri03 op n) w6) ?_
      refine pl_op rfl rfl (opTo_allocN _ rfl zero_ri ?_)
      intro w7 x7 hx7 hs7 hk7 hb7
      refine pl_op rfl rfl (opTo_storeN (iC (op, 0, 0, n)) rfl rfl rfl rfl size_ri hb7 (by simp [iC]) (iC_one _) ?_)
      intro w8 hs8 hk8 hb8
      rw [splice_whole (by rfl)] at hb8
      have hk68 : Keep [] w6 w8 := hk7.trB hk8 (by omega)
      have hne : ∀ k ∈ rv.ownBlock.toList, k < x7 := fun k hm => by have := (hrow.own k hm).2; omega
      have hx72 : w2.heap.size ≤ x7 := by have := hk6.size; omega
      refine auj ?_
      refine rn_seq ?_
      refine rn_with (fun σ' w' => Blk w' x7 (iC (op, if op = 2 ∨ op = 3 then cellOf vs v else 0, 0, n)) tRI ∧ Keep [] w6 w' ∧ Sub [(2, .pointer (some ⟨x1, 0, none⟩)), (3, .pointer (some ⟨x2, 0, none⟩)), (5, rv), (7, .pointer (some ⟨x7, 0, none⟩))] σ') ?_ ?_
      rotate_left
      · intro fin
        by_cases hop : op = 2 ∨ op = 3
        · rw [if_pos hop] at fin
          refine au ?_
          refine pl_val _ rfl rfl (val_load1 hT rfl rfl rfl ((hk68.blk hX26 (by simp)).cell rfl)) ?_
          by_cases h2 : op = 2
          · refine ye ?_
            refine auj ?_
            refine rn_plain ?_
            refine pl_val _ rfl rfl (val_load [.slice av vs.length capv, .slice ab bd.length capb] hT rfl rfl rfl ((hk68.blk hX16 (by simp)).range (by rfl))) ?_
            refine au ?_
            refine pl_val _ rfl rfl (val_load1 hT rfl rfl rfl ((hk68.blk hX26 (by simp)).cell rfl)) ?_
            refine pl_op rfl rfl (opTo_call (fst := []) (cap := []) rfl rfl rfl rfl (by decide +kernel) ((refCell_ret (hp2.keep (hk6.tr hk68) hF2.stays) (hF2.keep (hk6.tr hk68)) hs v).mono ?_))
            rintro r w9 ⟨rfl, hk9⟩
            refine au ?_
            refine pl_op rfl rfl (opTo_storeN [.int .i64 (cellOf vs v)] rfl rfl rfl rfl size_in (hk9.blk hb8 (by simp)) (by simp [iC]) (one_in _) ?_)
            intro w10 hs10 hk10 hb10
            refine auj ?_
            exact fin _ _ ⟨hb10, (hk68.tr hk9).trB hk10 (by omega), rfl, rfl, rfl, rfl, trivial⟩
          · refine nay ?_
            refine au ?_
            refine pl_val _ rfl rfl (val_load1 hT rfl rfl rfl ((hk68.blk hX26 (by simp)).cell rfl)) ?_
            refine ye ?_
            refine auj ?_
            refine rn_plain ?_
            refine pl_val _ rfl rfl (val_load [.slice av vs.length capv, .slice ab bd.length capb] hT rfl rfl rfl ((hk68.blk hX16 (by simp)).range (by rfl))) ?_
            refine au ?_
            refine pl_val _ rfl rfl (val_load1 hT rfl rfl rfl ((hk68.blk hX26 (by simp)).cell rfl)) ?_
            refine pl_op rfl rfl (opTo_call (fst := []) (cap := []) rfl rfl rfl rfl (by decide +kernel) ((refCell_ret (hp2.keep (hk6.tr hk68) hF2.stays) (hF2.keep (hk6.tr hk68)) hs v).mono ?_))
            rintro r w9 ⟨rfl, hk9⟩
            refine au ?_
            refine pl_op rfl rfl (opTo_storeN [.int .i64 (cellOf vs v)] rfl rfl rfl rfl size_in (hk9.blk hb8 (by simp)) (by simp [iC]) (one_in _) ?_)
            intro w10 hs10 hk10 hb10
            refine auj ?_
            exact fin _ _ ⟨hb10, (hk68.tr hk9).trB hk10 (by omega), rfl, rfl, rfl, rfl, trivial⟩
        · rw [if_neg hop] at fin
          refine au ?_
          refine pl_val _ rfl rfl (val_load1 hT rfl rfl rfl ((hk68.blk hX26 (by simp)).cell rfl)) ?_
          refine nay ?_
          refine au ?_
          refine pl_val _ rfl rfl (val_load1 hT rfl rfl rfl ((hk68.blk hX26 (by simp)).cell rfl)) ?_
          refine nay ?_
          refine auj ?_
          exact fin _ _ ⟨hb8, hk68, rfl, rfl, rfl, rfl, trivial⟩
      clear hb8 hk8 hs8
      rintro σ' w10 ⟨hb10, hk610, hsub⟩
      refine rn_sub hsub ?_
      refine rn_seq ?_
      refine rn_with (fun σ' w' => Blk w' x7 (iC (op, if op = 2 ∨ op = 3 then cellOf vs v else 0, if op = 3 then sizeV vs v else 0, n)) tRI ∧ Keep [] w6 w' ∧ Sub [(5, rv), (7, .pointer (some ⟨x7, 0, none⟩))] σ') ?_ ?_
      rotate_left
      · intro fin
        refine au ?_
        refine pl_val _ rfl rfl (val_load1 hT rfl rfl rfl ((hk610.blk hX26 (by simp)).cell rfl)) ?_
        by_cases h3 : op = 3
        · refine ye ?_
          rw [if_pos h3] at fin
          obtain ⟨hv0, hvl⟩ := hg1 (.inr h3)
          obtain ⟨k, rfl⟩ : ∃ k : Nat, v = (k : Nat) := ⟨v.toNat, by omega⟩
          simp only [Int.toNat_natCast] at hvl
          have hxv : vs[k]? = some vs[k] := List.getElem?_eq_getElem hvl
          obtain ⟨vv, bv, hpe, hv, _⟩ := hp2
          cases hpe
          obtain ⟨vb, vq, vc, hvv, hFv, hrv⟩ := hv.at hxv
          cases hvv
          have hsv : sizeV vs ((k : Nat) : Int) = vs[k].2 := by
            unfold sizeV
            rw [Int.toNat_natCast, List.getD_eq_getElem?_getD, hxv]
            rfl
          rw [hsv] at fin
          refine auj ?_
          refine rn_plain ?_
          refine au ?_
          refine pl_val _ rfl rfl (val_load1 hT rfl rfl rfl ((hk610.blk hX16 (by simp)).cell rfl)) ?_
          refine au ?_
          refine pl_val _ rfl rfl (val_load1 hT rfl rfl rfl ((hk610.blk hX26 (by simp)).cell rfl)) ?_
          refine pl_val _ rfl rfl (val_index k hT rfl rfl rfl rfl rfl hvl w10) ?_
          refine au ?_
          refine pl_val _ rfl rfl (val_load1 hT rfl rfl rfl ((range_keep hrv (hk6.tr hk610) (hF2 _ hFv) (by simp)) 1 (.int .i64 vs[k].2) rfl)) ?_
          refine au ?_
          refine pl_op rfl rfl (opTo_storeN [.int .i64 vs[k].2] rfl rfl rfl rfl size_in hb10 (by simp [iC]) (one_in _) ?_)
          intro w11 hs11 hk11 hb11
          refine auj ?_
          exact fin _ _ ⟨hb11, hk610.trB hk11 (by omega), rfl, rfl, trivial⟩
        · refine nay ?_
          rw [if_neg h3] at fin
          refine auj ?_
          exact fin _ _ ⟨hb10, hk610, rfl, rfl, trivial⟩
      clear hb10 hk610 hsub
      rintro σ' w11 ⟨hb11, hk611, hsub⟩
      refine rn_sub hsub ?_
      obtain ⟨X, hX⟩ : ∃ X : Is, X = (op, if op = 2 ∨ op = 3 then cellOf vs v else 0, if op = 3 then sizeV vs v else 0, n) := ⟨_, rfl⟩
      rw [← hX] at hb11
      refine au ?_
      refine pl_val (.agg (iC X).toArray) rfl rfl (val_load (iC X) hT rfl rfl rfl (hb11.range (by rfl))) ?_
      refine pl_op rfl rfl (opTo_sliceN tRI (iC X) rfl rfl (slice_ri X) ?_)
      intro w12 g hg hs12 hk12 hb12
      have hrow12 := hrow.keep0 (hk611.tr hk12)
      refine pl_op rfl rfl (opTo_rowApp (insEs vs l) [X] rfl rfl rfl app_ri hrow12 (ins_one hb12) (by simp; omega) ((hk6.tr hk611).tr hk12).size ?_)
      intro v13 w13 hrow13 hk13
      refine au ?_
      refine rn_ret Tryz.func109 (.inl ⟨_, rfl, rfl⟩) ⟨?_, hk.tr (row_keep hrow12 ((hk6.tr hk611).tr hk12) hk13)⟩
      simp only [insE]
      rw [← hX]
      exact hrow13.lower hsz2
end E
end Go.Proofs.YtmplkogkphmmjafGreat

/- The document's Being: Step, at INum, IVar, IGet. -/
namespace Go.Proofs.YtmplkogkphmmjafGreat
set_option maxRecDepth 20000
set_option maxHeartbeats 4000000
namespace E
open Go.Proofs

theorem bStep_num {w0 w : World} {b : Nat} {W : List Is} {inp : List Int} {cv iv : Value} {r : Rws} {m k : Md} {p : Pr} (h : Bw w0 w b W inp cv iv r m k p) (hs : m.state = 0) {A B N : Int} (hx : W[m.next]? = some (1, A, B, N)) (hWl : W.length ≤ 1000000) (hst : m.stack.length ≤ 1000) (_ : m.cells.length ≤ 1000) (q : Bool) :
    Ret Tryz.prog 40 [.pointer (some ⟨b, 0, none⟩), .bool q] w fun v w' => v = .bool true ∧ BwTo w0 w w' b W inp cv iv r (exI inp (1, A, B, N) m p).1 k (exI inp (1, A, B, N) m p).2 := by
  obtain ⟨sv, cl, ks, kc, ov⟩ := r
  have hn : m.next < W.length := (List.getElem?_eq_some_iff.1 hx).1
  obtain ⟨cb, cq, ccap, hcv, hcF, hcr⟩ := h.cd.ins.at hx
  subst hcv
  refine ret_of 307 Tryz.func40 rfl rfl (by simp) ?_
  refine au ?_
  refine pl_val _ rfl rfl (val_load1 hT rfl rfl rfl (h.bk.cell rfl)) ?_
  refine nay ?_
  refine au ?_
  refine rn_draw (fun w' => Keep [] w w') [] hMix ?_
  have hS : Keep [] w w.drew := (Keep.refl _ _).drew
  generalize w.drew = w1 at *
  refine tk 0 ?_
  refine tk 1 ?_
  refine tk 2 ?_
  refine dr_val 3 (.slice (some ⟨cb, cq, none⟩) W.length ccap) rfl (by decide +kernel) rfl rfl (fun w9 hS9 => val_load1 hT rfl rfl rfl ((hS9.blk h.bk (by simp)).cell rfl)) hS ?_
  refine tk 4 ?_
  refine tk 5 ?_
  refine tk 6 ?_
  refine tk 7 ?_
  refine dr_val 8 (.int .i64 (m.next : Nat)) rfl (by decide +kernel) rfl rfl (fun w9 hS9 => val_load1 hT rfl rfl rfl ((hS9.blk h.bk (by simp)).cell rfl)) hS ?_
  refine dr_any 9 _ rfl (by decide +kernel) rfl rfl (fun w => val_index m.next hT rfl rfl rfl rfl rfl hn w) ?_
  refine dr_val 10 (.agg (iC (1, A, B, N)).toArray) rfl (by decide +kernel) rfl rfl (fun w9 hS9 => val_load (iC (1, A, B, N)) hT rfl rfl rfl (range_keep hcr hS9 hcF.2 (by simp))) hS ?_
  refine dr_op 11 rfl (by decide +kernel) rfl rfl (opTo_allocN _ rfl zero_ri ?_)
  intro w2 x5 hx5 hs2 hk2 hb2
  refine ⟨fun _ => hS.tr hk2, ?_⟩
  refine dr_op 12 rfl (by decide +kernel) rfl rfl (opTo_storeN (iC (1, A, B, N)) rfl rfl rfl rfl size_ri hb2 (by simp [iC]) (iC_one _) ?_)
  intro w3 hs3 hk3 hb3
  rw [splice_whole (by rfl)] at hb3
  have hk03 : Keep [] w w3 := hS.tr (hk2.trB hk3 (by omega))
  refine ⟨fun _ => hk03, ?_⟩
  refine dr_done (by decide +kernel) ?_
  have h3 := h.keep0 hk03
  have hn3 : x5 ∉ fpB b (.slice (some ⟨cb, cq, none⟩) W.length ccap) ⟨sv, cl, ks, kc, ov⟩ := fun hm => by
    have := (h.own x5 hm).2
    have := hS.size
    omega
  refine au ?_
  refine pl_val _ rfl rfl (val_load1 hT rfl rfl rfl (h3.bk.cell rfl)) ?_
  refine pl_num (((m.next + 1 : Nat) : Int)) rfl rfl rfl rfl rfl (by simp only [ariP]; omega) ?_
  refine au ?_
  refine pl_op rfl rfl (opTo_storeN [.int .i64 ((m.next + 1 : Nat) : Int)] rfl rfl rfl rfl size_in h3.bk (by simp [beC, mC]) (one_in _) ?_)
  intro w4 hs4 hk4 hb4
  have t4 := h3.put (m' := { m with next := m.next + 1 }) (p' := p) hk4 hb4 rfl rfl rfl
  obtain ⟨hx4, hn4⟩ := t4.blk hn3 hb3
  have t := BwT.late hk03 t4
  have h4 := t.1
  have hb4 := h4.bk
  clear t4 hs4 hk4 hk3 hs3 hb3 h3 hb2 hk2 hs2 hS hcr hn3
  refine au ?_
  refine pl_val _ rfl rfl (val_load1 hT rfl rfl rfl (hx4.cell rfl)) ?_
  refine aub ?_
  refine pl_op rfl rfl (opTo_call (fst := []) (cap := []) rfl rfl rfl rfl (by decide +kernel) ((bPush_ret h4 hst N).mono ?_))
  rintro v w5 ⟨rfl, s', t5⟩
  refine au ?_
  have e : exI inp (1, A, B, N) m p = ({ m with next := m.next + 1, stack := m.stack ++ [N] }, p) := rfl
  rw [e]
  exact rn_ret Tryz.func40 (.inl ⟨_, rfl, rfl⟩) ⟨rfl, _, t.seq t5⟩

theorem bStep_var {w0 w : World} {b : Nat} {W : List Is} {inp : List Int} {cv iv : Value} {r : Rws} {m k : Md} {p : Pr} (h : Bw w0 w b W inp cv iv r m k p) (hs : m.state = 0) {A B N : Int} (hx : W[m.next]? = some (2, A, B, N)) (hWl : W.length ≤ 1000000) (hst : m.stack.length ≤ 1000) (_ : m.cells.length ≤ 1000) (hA0 : 0 ≤ A) (hA : A < (m.cells.length : Int)) (q : Bool) :
    Ret Tryz.prog 40 [.pointer (some ⟨b, 0, none⟩), .bool q] w fun v w' => v = .bool true ∧ BwTo w0 w w' b W inp cv iv r (exI inp (2, A, B, N) m p).1 k (exI inp (2, A, B, N) m p).2 := by
  obtain ⟨a, rfl⟩ : ∃ a : Nat, A = (a : Nat) := ⟨A.toNat, by omega⟩
  obtain ⟨sv, cl, ks, kc, ov⟩ := r
  have hn : m.next < W.length := (List.getElem?_eq_some_iff.1 hx).1
  obtain ⟨cb, cq, ccap, hcv, hcF, hcr⟩ := h.cd.ins.at hx
  subst hcv
  refine ret_of 307 Tryz.func40 rfl rfl (by simp) ?_
  refine au ?_
  refine pl_val _ rfl rfl (val_load1 hT rfl rfl rfl (h.bk.cell rfl)) ?_
  refine nay ?_
  refine au ?_
  refine rn_draw (fun w' => Keep [] w w') [] hMix ?_
  have hS : Keep [] w w.drew := (Keep.refl _ _).drew
  generalize w.drew = w1 at *
  refine tk 0 ?_
  refine tk 1 ?_
  refine tk 2 ?_
  refine dr_val 3 (.slice (some ⟨cb, cq, none⟩) W.length ccap) rfl (by decide +kernel) rfl rfl (fun w9 hS9 => val_load1 hT rfl rfl rfl ((hS9.blk h.bk (by simp)).cell rfl)) hS ?_
  refine tk 4 ?_
  refine tk 5 ?_
  refine tk 6 ?_
  refine tk 7 ?_
  refine dr_val 8 (.int .i64 (m.next : Nat)) rfl (by decide +kernel) rfl rfl (fun w9 hS9 => val_load1 hT rfl rfl rfl ((hS9.blk h.bk (by simp)).cell rfl)) hS ?_
  refine dr_any 9 _ rfl (by decide +kernel) rfl rfl (fun w => val_index m.next hT rfl rfl rfl rfl rfl hn w) ?_
  refine dr_val 10 (.agg (iC (2, ((a : Nat) : Int), B, N)).toArray) rfl (by decide +kernel) rfl rfl (fun w9 hS9 => val_load (iC (2, ((a : Nat) : Int), B, N)) hT rfl rfl rfl (range_keep hcr hS9 hcF.2 (by simp))) hS ?_
  refine dr_op 11 rfl (by decide +kernel) rfl rfl (opTo_allocN _ rfl zero_ri ?_)
  intro w2 x5 hx5 hs2 hk2 hb2
  refine ⟨fun _ => hS.tr hk2, ?_⟩
  refine dr_op 12 rfl (by decide +kernel) rfl rfl (opTo_storeN (iC (2, ((a : Nat) : Int), B, N)) rfl rfl rfl rfl size_ri hb2 (by simp [iC]) (iC_one _) ?_)
  intro w3 hs3 hk3 hb3
  rw [splice_whole (by rfl)] at hb3
  have hk03 : Keep [] w w3 := hS.tr (hk2.trB hk3 (by omega))
  refine ⟨fun _ => hk03, ?_⟩
  refine dr_done (by decide +kernel) ?_
  have h3 := h.keep0 hk03
  have hn3 : x5 ∉ fpB b (.slice (some ⟨cb, cq, none⟩) W.length ccap) ⟨sv, cl, ks, kc, ov⟩ := fun hm => by
    have := (h.own x5 hm).2
    have := hS.size
    omega
  refine au ?_
  refine pl_val _ rfl rfl (val_load1 hT rfl rfl rfl (h3.bk.cell rfl)) ?_
  refine pl_num (((m.next + 1 : Nat) : Int)) rfl rfl rfl rfl rfl (by simp only [ariP]; omega) ?_
  refine au ?_
  refine pl_op rfl rfl (opTo_storeN [.int .i64 ((m.next + 1 : Nat) : Int)] rfl rfl rfl rfl size_in h3.bk (by simp [beC, mC]) (one_in _) ?_)
  intro w4 hs4 hk4 hb4
  have t4 := h3.put (m' := { m with next := m.next + 1 }) (p' := p) hk4 hb4 rfl rfl rfl
  obtain ⟨hx4, hn4⟩ := t4.blk hn3 hb3
  have t := BwT.late hk03 t4
  have h4 := t.1
  have hb4 := h4.bk
  clear t4 hs4 hk4 hk3 hs3 hb3 h3 hb2 hk2 hs2 hS hcr hn3
  refine au ?_
  refine pl_val _ rfl rfl (val_load1 hT rfl rfl rfl (hx4.cell rfl)) ?_
  refine aub ?_
  have hal : a < m.cells.length := by omega
  obtain ⟨g, gcap, hgv, hgl, hgr⟩ := h4.rc.at2 (cellAt_nat hal)
  simp only at hgv hgl hgr
  subst hgv
  refine rn_draw (fun w' => Keep [] w4 w') [10] hMix ?_
  have hS : Keep [] w4 w4.drew := (Keep.refl _ _).drew
  generalize w4.drew = w5 at *
  refine tk 0 ?_
  refine tk 1 ?_
  refine tk 2 ?_
  refine tk 3 ?_
  refine tk 4 ?_
  refine dr_val 5 (.slice (some ⟨g, 0, none⟩) m.cells.length gcap) rfl (by decide +kernel) rfl rfl (fun w9 hS9 => val_load1 hT rfl rfl rfl ((hS9.blk hb4 (by simp)).cell rfl)) hS ?_
  refine tk 6 ?_
  refine dr_val 7 (.int .i64 (a : Nat)) rfl (by decide +kernel) rfl rfl (fun w9 hS9 => val_load1 hT rfl rfl rfl ((hS9.blk hx4 (by simp)).cell rfl)) hS ?_
  refine dr_any 8 _ rfl (by decide +kernel) rfl rfl (fun w => val_index a hT rfl rfl rfl rfl rfl hal w) ?_
  refine dr_val 9 (.int .i64 (cellAt m.cells ((a : Nat) : Int))) rfl (by decide +kernel) rfl rfl (fun w9 hS9 => val_load1 hT rfl rfl rfl (by have := range_keep hgr hS9 hgl (by simp) 0 _ rfl; simpa using this)) hS ?_
  refine dr_op 10 rfl (by decide +kernel) rfl rfl (opTo_call (fst := []) (cap := []) rfl rfl rfl rfl (by decide +kernel) ((bPush_ret (h4.keep0 hS) hst (cellAt m.cells ((a : Nat) : Int))).mono ?_))
  rintro v w6 ⟨rfl, s', t6⟩
  refine ⟨fun h => absurd (by simp) h, ?_⟩
  refine dr_done (by decide +kernel) ?_
  refine au ?_
  have e : exI inp (2, ((a : Nat) : Int), B, N) m p = ({ m with next := m.next + 1, stack := m.stack ++ [cellAt m.cells ((a : Nat) : Int)] }, p) := rfl
  rw [e]
  exact rn_ret Tryz.func40 (.inl ⟨_, rfl, rfl⟩) ⟨rfl, _, (t.keep0 hS).seq t6⟩

theorem bStep_get {w0 w : World} {b : Nat} {W : List Is} {inp : List Int} {cv iv : Value} {r : Rws} {m k : Md} {p : Pr} (h : Bw w0 w b W inp cv iv r m k p) (hs : m.state = 0) {A B N : Int} (hx : W[m.next]? = some (3, A, B, N)) (hWl : W.length ≤ 1000000) (hst : m.stack.length ≤ 1000) (hcl : m.cells.length ≤ 1000) (h1 : 1 ≤ m.stack.length) (hA0 : 0 ≤ A) (hAB : A + B ≤ (m.cells.length : Int)) (q : Bool) :
    Ret Tryz.prog 40 [.pointer (some ⟨b, 0, none⟩), .bool q] w fun v w' => v = .bool true ∧ BwTo w0 w w' b W inp cv iv r (exI inp (3, A, B, N) m p).1 k (exI inp (3, A, B, N) m p).2 := by
  obtain ⟨a, rfl⟩ : ∃ a : Nat, A = (a : Nat) := ⟨A.toNat, by omega⟩
  obtain ⟨sv, cl, ks, kc, ov⟩ := r
  have hn : m.next < W.length := (List.getElem?_eq_some_iff.1 hx).1
  obtain ⟨cb, cq, ccap, hcv, hcF, hcr⟩ := h.cd.ins.at hx
  subst hcv
  refine ret_of 307 Tryz.func40 rfl rfl (by simp) ?_
  refine au ?_
  refine pl_val _ rfl rfl (val_load1 hT rfl rfl rfl (h.bk.cell rfl)) ?_
  refine nay ?_
  refine au ?_
  refine rn_draw (fun w' => Keep [] w w') [] hMix ?_
  have hS : Keep [] w w.drew := (Keep.refl _ _).drew
  generalize w.drew = w1 at *
  refine tk 0 ?_
  refine tk 1 ?_
  refine tk 2 ?_
  refine dr_val 3 (.slice (some ⟨cb, cq, none⟩) W.length ccap) rfl (by decide +kernel) rfl rfl (fun w9 hS9 => val_load1 hT rfl rfl rfl ((hS9.blk h.bk (by simp)).cell rfl)) hS ?_
  refine tk 4 ?_
  refine tk 5 ?_
  refine tk 6 ?_
  refine tk 7 ?_
  refine dr_val 8 (.int .i64 (m.next : Nat)) rfl (by decide +kernel) rfl rfl (fun w9 hS9 => val_load1 hT rfl rfl rfl ((hS9.blk h.bk (by simp)).cell rfl)) hS ?_
  refine dr_any 9 _ rfl (by decide +kernel) rfl rfl (fun w => val_index m.next hT rfl rfl rfl rfl rfl hn w) ?_
  refine dr_val 10 (.agg (iC (3, ((a : Nat) : Int), B, N)).toArray) rfl (by decide +kernel) rfl rfl (fun w9 hS9 => val_load (iC (3, ((a : Nat) : Int), B, N)) hT rfl rfl rfl (range_keep hcr hS9 hcF.2 (by simp))) hS ?_
  refine dr_op 11 rfl (by decide +kernel) rfl rfl (opTo_allocN _ rfl zero_ri ?_)
  intro w2 x5 hx5 hs2 hk2 hb2
  refine ⟨fun _ => hS.tr hk2, ?_⟩
  refine dr_op 12 rfl (by decide +kernel) rfl rfl (opTo_storeN (iC (3, ((a : Nat) : Int), B, N)) rfl rfl rfl rfl size_ri hb2 (by simp [iC]) (iC_one _) ?_)
  intro w3 hs3 hk3 hb3
  rw [splice_whole (by rfl)] at hb3
  have hk03 : Keep [] w w3 := hS.tr (hk2.trB hk3 (by omega))
  refine ⟨fun _ => hk03, ?_⟩
  refine dr_done (by decide +kernel) ?_
  have h3 := h.keep0 hk03
  have hn3 : x5 ∉ fpB b (.slice (some ⟨cb, cq, none⟩) W.length ccap) ⟨sv, cl, ks, kc, ov⟩ := fun hm => by
    have := (h.own x5 hm).2
    have := hS.size
    omega
  refine au ?_
  refine pl_val _ rfl rfl (val_load1 hT rfl rfl rfl (h3.bk.cell rfl)) ?_
  refine pl_num (((m.next + 1 : Nat) : Int)) rfl rfl rfl rfl rfl (by simp only [ariP]; omega) ?_
  refine au ?_
  refine pl_op rfl rfl (opTo_storeN [.int .i64 ((m.next + 1 : Nat) : Int)] rfl rfl rfl rfl size_in h3.bk (by simp [beC, mC]) (one_in _) ?_)
  intro w4 hs4 hk4 hb4
  have t4 := h3.put (m' := { m with next := m.next + 1 }) (p' := p) hk4 hb4 rfl rfl rfl
  obtain ⟨hx4, hn4⟩ := t4.blk hn3 hb3
  have t := BwT.late hk03 t4
  have h4 := t.1
  have hb4 := h4.bk
  clear t4 hs4 hk4 hk3 hs3 hb3 h3 hb2 hk2 hs2 hS hcr hn3
  refine au ?_
  refine pl_val _ rfl rfl (val_load1 hT rfl rfl rfl (hx4.cell rfl)) ?_
  refine aub ?_
  refine pl_op rfl rfl (opTo_call (fst := []) (cap := []) rfl rfl rfl rfl (by decide +kernel) ((bPop_ret h4 (by show 0 < m.stack.length; omega) hst (topS m.stack) rfl).mono ?_))
  rintro v w5 ⟨rfl, s', t5⟩
  have tt := t.seq t5
  have h5 := tt.1
  obtain ⟨hx5', hn5⟩ := t5.blk hn4 hx4
  have hb5 := h5.bk
  clear hb4 hx4
  have hdl : m.stack.dropLast.length ≤ 1000 := by simp; omega
  refine au ?_
  by_cases hr : 0 ≤ topS m.stack ∧ topS m.stack < B
  · obtain ⟨kk, hkk⟩ : ∃ kk : Nat, topS m.stack = (kk : Nat) := ⟨(topS m.stack).toNat, by omega⟩
    have e : exI inp (3, ((a : Nat) : Int), B, N) m p = ({ m with next := m.next + 1, stack := m.stack.dropLast ++ [cellAt m.cells (((a + kk : Nat) : Nat) : Int)] }, p) := by
      show (if 0 ≤ topS m.stack ∧ topS m.stack < B then _ else _) = _
      rw [if_pos hr, hkk]
      rfl
    rw [e]
    rw [hkk] at hr ⊢
    have hal : a + kk < m.cells.length := by omega
    obtain ⟨g, gcap, hgv, hgl, hgr⟩ := h5.rc.at2 (cellAt_nat hal)
    simp only at hgv hgl hgr
    subst hgv
    refine nay ?_
    refine au ?_
    refine pl_val _ rfl rfl (val_load1 hT rfl rfl rfl (hx5'.cell rfl)) ?_
    refine nay ?_
    refine au ?_
    refine rn_draw (fun w' => Keep [] w5 w') [12] hMix ?_
    have hS : Keep [] w5 w5.drew := (Keep.refl _ _).drew
    generalize w5.drew = w6 at *
    refine tk 0 ?_
    refine tk 1 ?_
    refine tk 2 ?_
    refine tk 3 ?_
    refine tk 4 ?_
    refine dr_val 5 (.slice (some ⟨g, 0, none⟩) m.cells.length gcap) rfl (by decide +kernel) rfl rfl (fun w9 hS9 => val_load1 hT rfl rfl rfl ((hS9.blk hb5 (by simp)).cell rfl)) hS ?_
    refine tk 6 ?_
    refine dr_val 7 (.int .i64 (a : Nat)) rfl (by decide +kernel) rfl rfl (fun w9 hS9 => val_load1 hT rfl rfl rfl ((hS9.blk hx5' (by simp)).cell rfl)) hS ?_
    refine tk 8 ?_
    refine dr_num 9 (((a + kk : Nat) : Int)) rfl (by decide +kernel) rfl rfl rfl rfl rfl (by simp only [ariP]; omega) ?_
    refine dr_any 10 _ rfl (by decide +kernel) rfl rfl (fun w => val_index (a + kk) hT rfl rfl rfl rfl rfl hal w) ?_
    refine dr_val 11 (.int .i64 (cellAt m.cells ((a + kk : Nat) : Int))) rfl (by decide +kernel) rfl rfl (fun w9 hS9 => val_load1 hT rfl rfl rfl (by have := range_keep hgr hS9 hgl (by simp) 0 _ rfl; simpa using this)) hS ?_
    refine dr_op 12 rfl (by decide +kernel) rfl rfl (opTo_call (fst := []) (cap := []) rfl rfl rfl rfl (by decide +kernel) ((bPush_ret (h5.keep0 hS) hdl (cellAt m.cells ((a + kk : Nat) : Int))).mono ?_))
    rintro v w7 ⟨rfl, s2, t7⟩
    refine ⟨fun h => absurd (by simp) h, ?_⟩
    refine dr_done (by decide +kernel) ?_
    refine au ?_
    exact rn_ret Tryz.func40 (.inl ⟨_, rfl, rfl⟩) ⟨rfl, _, (tt.keep0 hS).seq t7⟩
  · have e : exI inp (3, ((a : Nat) : Int), B, N) m p = ({ m with next := m.next + 1, stack := m.stack.dropLast, state := 13 }, p) := by
      show (if 0 ≤ topS m.stack ∧ topS m.stack < B then _ else _) = _
      rw [if_neg hr]
    rw [e]
    generalize topS m.stack = top at *
    by_cases hneg : top < 0
    · refine ye ?_
      refine au ?_
      refine pl_op rfl rfl (opTo_storeN [.int .i64 13] rfl rfl rfl rfl size_in hb5 (by simp [beC, mC]) (one_in _) ?_)
      intro wz hsz hkz hbz
      have tz := h5.put (m' := { m with next := m.next + 1, stack := m.stack.dropLast, state := 13 }) (p' := p) hkz hbz rfl rfl rfl
      refine au ?_
      exact rn_ret Tryz.func40 (.inl ⟨_, rfl, rfl⟩) ⟨rfl, _, tt.seq tz⟩
    · refine nay ?_
      refine au ?_
      refine pl_val _ rfl rfl (val_load1 hT rfl rfl rfl (hx5'.cell rfl)) ?_
      refine ye ?_
      refine au ?_
      refine pl_op rfl rfl (opTo_storeN [.int .i64 13] rfl rfl rfl rfl size_in hb5 (by simp [beC, mC]) (one_in _) ?_)
      intro wz hsz hkz hbz
      have tz := h5.put (m' := { m with next := m.next + 1, stack := m.stack.dropLast, state := 13 }) (p' := p) hkz hbz rfl rfl rfl
      refine au ?_
      exact rn_ret Tryz.func40 (.inl ⟨_, rfl, rfl⟩) ⟨rfl, _, tt.seq tz⟩
end E
end Go.Proofs.YtmplkogkphmmjafGreat
