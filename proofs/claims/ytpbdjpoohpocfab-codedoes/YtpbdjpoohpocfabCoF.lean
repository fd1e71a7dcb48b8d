/- Contracts of checkVars, Check, Cell, Cells. -/
import Derived.Test.YtpbdjpoohpocfabCoE
namespace Go.Proofs.Ytpbdjpoohpocfab
set_option maxRecDepth 20000
set_option maxHeartbeats 4000000
namespace E
open Go.Proofs

theorem VarsV.cut {F : Nat → Prop} {w : World} {a : Option Addr} {cap i : Nat} {l : List VarT} (h : VarsV F w (.slice a l.length cap) l) (hi : i ≤ l.length) : VarsV F w (.slice a i cap) (l.take i) := by
  obtain ⟨a', cap', hv, hc, hr⟩ := h
  cases hv
  refine ⟨a, cap, by rw [List.length_take, Nat.min_eq_left hi], by rw [List.length_take]; omega, fun h0 => ?_⟩
  rw [List.length_take, Nat.min_eq_left hi] at h0
  obtain ⟨b, q, ha, hF, hra⟩ := hr (by omega)
  refine ⟨b, q, ha, hF, fun j hj => ?_⟩
  rw [List.length_take, Nat.min_eq_left hi] at hj
  have := hra j (by omega)
  have e : (l.take i).getD j (ByteArray.empty, 0) = l.getD j (ByteArray.empty, 0) := by
    rw [List.getD_eq_getElem?_getD, List.getD_eq_getElem?_getD, List.getElem?_take, if_pos hj]
  show w.rangeAt b (q + j * 2) (vcell ((l.take i).getD j (ByteArray.empty, 0)))
  rw [e]
  exact this

theorem vcell_one (x : VarT) : ∀ u ∈ vcell x, u.oneCell' = true := by
  intro u hu
  simp [vcell] at hu
  rcases hu with rfl | rfl <;> rfl
def varZ : List Value := [.string ⟨#[]⟩, .int .i64 0]
theorem zero_var : ((Try.prog.info? 84).bind (·.zero)).map (·.cells) = some varZ.toArray := by kernel_rfl

theorem ahead_ret {w : World} {xb : Nat} {x : VarT} (h : Blk w xb (vcell x) 84) (y : VarT) :
    Ret Try.prog 91 [.agg (vcell y).toArray, .pointer (some ⟨xb, 0, none⟩)] w fun r w' => r = .bool (y.1.toList == x.1.toList) ∧ Keep [] w w' := by
  obtain ⟨ys, yz⟩ := y
  obtain ⟨xs, xz⟩ := x
  refine ret_of 9 Try.func91 rfl rfl (by simp) ?_
  (repeat (first | refine pl_pure hT rfl rfl rfl ?_ | refine pl_nil ?_ | refine rn_seq ?_ | refine rn_plain ?_ | refine rn_block ?_ | refine rn_inBlock ?_ | refine rn_skip ?_ | refine rn_true rfl ?_ | refine rn_false rfl ?_ | refine rn_exit rfl ?_ | refine pl_not rfl rfl ?_))
  refine pl_op rfl rfl (opTo_boxN [.string ys, .int .i64 yz] rfl rfl rfl ?_)
  intro w1 b hb0 hs1 hk1 hb1
  have h1 := hk1.blk h (by simp)
  unfold vcell at h1
  (repeat (first | refine pl_pure hT rfl rfl rfl ?_ | refine pl_nil ?_ | refine rn_seq ?_ | refine rn_plain ?_ | refine rn_block ?_ | refine rn_inBlock ?_ | refine rn_skip ?_ | refine rn_true rfl ?_ | refine rn_false rfl ?_ | refine rn_exit rfl ?_ | refine pl_not rfl rfl ?_ | refine pl_val _ rfl rfl (val_load1 hT rfl rfl rfl (Blk.cell (by assumption) (by rfl))) ?_ | refine pl_yes rfl rfl rfl rfl rfl (by first | (simp only [cmpP]; omega) | (simp [cmpP]; done) | (simp [cmpP]; omega)) ?_ | refine pl_no rfl rfl rfl rfl rfl rfl (by first | (simp only [cmpP]; omega) | (simp [cmpP]; done) | (simp [cmpP]; omega)) ?_))
  refine pl_val _ rfl rfl (val_eqStr ys xs _ rfl rfl rfl rfl w1) ?_
  (repeat (first | refine pl_pure hT rfl rfl rfl ?_ | refine pl_nil ?_ | refine rn_seq ?_ | refine rn_plain ?_ | refine rn_block ?_ | refine rn_inBlock ?_ | refine rn_skip ?_ | refine rn_true rfl ?_ | refine rn_false rfl ?_ | refine rn_exit rfl ?_ | refine pl_not rfl rfl ?_))
  exact rn_ret Try.func91 (.inl ⟨_, rfl, rfl⟩) ⟨rfl, hk1⟩

def sameName (x y : VarT) : Bool := y.1.toList == x.1.toList

theorem index_ret {F : Nat → Prop} {w : World} {xb : Nat} {x : VarT} {lv : Value} {l : List VarT} (h : VarsV F w lv l) (hF : In F w) (hx : Blk w xb (vcell x) 84) (hl : l.length ≤ 1000) :
    Ret Try.prog 104 [lv, .func (.func 91) #[] #[.pointer (some ⟨xb, 0, none⟩)]] w fun r w' => (∃ j : Int, r = .int .i64 j ∧ decide (j ≥ 0) = l.any (sameName x)) ∧ Keep [] w w' := by
  obtain ⟨a, cap, rfl⟩ := h.form
  refine ret_of 19 Try.func104 rfl rfl (by simp) ?_
  (repeat (first | refine pl_pure hT rfl rfl rfl ?_ | refine pl_nil ?_ | refine rn_seq ?_ | refine rn_plain ?_ | refine rn_block ?_ | refine rn_inBlock ?_ | refine rn_skip ?_ | refine rn_true rfl ?_ | refine rn_false rfl ?_ | refine rn_exit rfl ?_ | refine pl_not rfl rfl ?_))
  refine rn_ind (fun m σ w' => ∃ i : Nat, i ≤ l.length ∧ m = l.length - i ∧ σ = [(0, .slice a l.length cap), (1, .func (.func 91) #[] #[.pointer (some ⟨xb, 0, none⟩)]), (7, .int .i64 (l.length : Nat)), (8, .int .i64 (i : Nat))] ∧ (l.take i).any (sameName x) = false ∧ Keep [] w w')
    l.length _ ?_ ⟨0, by omega, by omega, rfl, by simp, Keep.refl _ _⟩ ?_
  · exact ⟨rfl, rfl, rfl, rfl, trivial⟩
  rintro m σ w2 ih ⟨i, hi, rfl, rfl, hany, hk2⟩
  (repeat (first | refine pl_pure hT rfl rfl rfl ?_ | refine pl_nil ?_ | refine rn_seq ?_ | refine rn_plain ?_ | refine rn_block ?_ | refine rn_inBlock ?_ | refine rn_skip ?_ | refine rn_true rfl ?_ | refine rn_false rfl ?_ | refine rn_exit rfl ?_ | refine pl_not rfl rfl ?_))
  by_cases hlt : i < l.length
  · refine pl_yes rfl rfl rfl rfl rfl (by first | (simp only [cmpP]; omega) | (simp [cmpP]; done) | (simp [cmpP]; omega)) ?_
    (repeat (first | refine pl_pure hT rfl rfl rfl ?_ | refine pl_nil ?_ | refine rn_seq ?_ | refine rn_plain ?_ | refine rn_block ?_ | refine rn_inBlock ?_ | refine rn_skip ?_ | refine rn_true rfl ?_ | refine rn_false rfl ?_ | refine rn_exit rfl ?_ | refine pl_not rfl rfl ?_))
    have hget : l[i]? = some l[i] := List.getElem?_eq_getElem hlt
    obtain ⟨bb, q, cap', hv, _, hra⟩ := (h.keep hk2 hF.stays).at hget
    cases hv
    refine pl_val _ rfl rfl (val_index i hT rfl rfl rfl rfl rfl hlt w2) ?_
    refine pl_val _ rfl rfl (val_load (vcell l[i]) hT rfl rfl rfl hra) ?_
    refine pl_op rfl rfl (opTo_call (fst := []) (cap := [.pointer (some ⟨xb, 0, none⟩)]) rfl rfl rfl rfl (by decide +kernel) ((ahead_ret (hk2.blk hx (by simp)) l[i]).mono ?_))
    rintro v3 w3 ⟨rfl, hk3⟩
    have hsu : (l.take (i + 1)).any (sameName x) = sameName x l[i] := by
      rw [List.take_succ_eq_append_getElem hlt, List.any_append, hany]
      simp
    cases hb : (l[i].1.toList == x.1.toList) with
    | true =>
      (repeat (first | refine pl_pure hT rfl rfl rfl ?_ | refine pl_nil ?_ | refine rn_seq ?_ | refine rn_plain ?_ | refine rn_block ?_ | refine rn_inBlock ?_ | refine rn_skip ?_ | refine rn_true rfl ?_ | refine rn_false rfl ?_ | refine rn_exit rfl ?_ | refine pl_not rfl rfl ?_))
      refine rn_ret Try.func104 (.inl ⟨_, rfl, rfl⟩) ⟨⟨_, rfl, ?_⟩, hk2.tr hk3⟩
      have : l.any (sameName x) = true := List.any_eq_true.2 ⟨l[i], List.getElem_mem hlt, hb⟩
      rw [this]
      simp
    | false =>
      (repeat (first | refine pl_pure hT rfl rfl rfl ?_ | refine pl_nil ?_ | refine rn_seq ?_ | refine rn_plain ?_ | refine rn_block ?_ | refine rn_inBlock ?_ | refine rn_skip ?_ | refine rn_true rfl ?_ | refine rn_false rfl ?_ | refine rn_exit rfl ?_ | refine pl_not rfl rfl ?_))
      refine pl_num (((i + 1 : Nat) : Int)) rfl rfl rfl rfl rfl (by simp only [ariP]; omega) ?_
      (repeat (first | refine pl_pure hT rfl rfl rfl ?_ | refine pl_nil ?_ | refine rn_seq ?_ | refine rn_plain ?_ | refine rn_block ?_ | refine rn_inBlock ?_ | refine rn_skip ?_ | refine rn_true rfl ?_ | refine rn_false rfl ?_ | refine rn_exit rfl ?_ | refine pl_not rfl rfl ?_))
      refine rn_sub ?_ (ih (l.length - (i + 1)) [(0, .slice (some ⟨bb, q, none⟩) l.length cap), (1, .func (.func 91) #[] #[.pointer (some ⟨xb, 0, none⟩)]), (7, .int .i64 (l.length : Nat)), (8, .int .i64 ((i + 1 : Nat) : Int))] w3 (by omega) ⟨i + 1, by omega, rfl, rfl, ?_, hk2.tr hk3⟩)
      · exact ⟨rfl, rfl, rfl, rfl, trivial⟩
      · rw [hsu]; exact hb
  · refine pl_no rfl rfl rfl rfl rfl rfl (by first | (simp only [cmpP]; omega) | (simp [cmpP]; done) | (simp [cmpP]; omega)) ?_
    (repeat (first | refine pl_pure hT rfl rfl rfl ?_ | refine pl_nil ?_ | refine rn_seq ?_ | refine rn_plain ?_ | refine rn_block ?_ | refine rn_inBlock ?_ | refine rn_skip ?_ | refine rn_true rfl ?_ | refine rn_false rfl ?_ | refine rn_exit rfl ?_ | refine pl_not rfl rfl ?_))
    refine rn_ret Try.func104 (.inl ⟨_, rfl, rfl⟩) ⟨⟨_, rfl, ?_⟩, hk2⟩
    rw [List.take_of_length_le (by omega)] at hany
    rw [hany]
    rfl

theorem contains_ret {F : Nat → Prop} {w : World} {xb : Nat} {x : VarT} {lv : Value} {l : List VarT} (h : VarsV F w lv l) (hF : In F w) (hx : Blk w xb (vcell x) 84) (hl : l.length ≤ 1000) :
    Ret Try.prog 90 [lv, .func (.func 91) #[] #[.pointer (some ⟨xb, 0, none⟩)]] w fun r w' => r = .bool (l.any (sameName x)) ∧ Keep [] w w' := by
  refine ret_of 9 Try.func90 rfl rfl (by simp) ?_
  (repeat (first | refine pl_pure hT rfl rfl rfl ?_ | refine pl_nil ?_ | refine rn_seq ?_ | refine rn_plain ?_ | refine rn_block ?_ | refine rn_inBlock ?_ | refine rn_skip ?_ | refine rn_true rfl ?_ | refine rn_false rfl ?_ | refine rn_exit rfl ?_ | refine pl_not rfl rfl ?_))
  refine pl_op rfl rfl (opTo_call rfl rfl rfl rfl (by decide +kernel) ((index_ret h hF hx hl).mono ?_))
  rintro v1 w1 ⟨⟨j, rfl, hj⟩, hk1⟩
  refine pl_val (.bool (l.any (sameName x))) rfl rfl (val_int .i64 _ _ _ rfl rfl rfl (by simp only [intOp, ← hj]) w1) ?_
  (repeat (first | refine pl_pure hT rfl rfl rfl ?_ | refine pl_nil ?_ | refine rn_seq ?_ | refine rn_plain ?_ | refine rn_block ?_ | refine rn_inBlock ?_ | refine rn_skip ?_ | refine rn_true rfl ?_ | refine rn_false rfl ?_ | refine rn_exit rfl ?_ | refine pl_not rfl rfl ?_))
  exact rn_ret Try.func90 (.inl ⟨_, rfl, rfl⟩) ⟨rfl, hk1⟩

theorem chkV_at {vs : List VarT} {i : Nat} {x : VarT} (hx : vs[i]? = some x) : chkV ((vs.take i).map (·.1)) (sumV (vs.take i)) (vs.drop i) =
    if nameOk x.1 = false then 8 else if (vs.take i).any (sameName x) = true then 9 else if x.2 < 1 ∨ x.2 > 48 ∨ sumV (vs.take i) + x.2 > 48 then 1 else chkV ((vs.take (i + 1)).map (·.1)) (sumV (vs.take (i + 1))) (vs.drop (i + 1)) := by
  obtain ⟨hlt, e⟩ := List.getElem?_eq_some_iff.1 hx
  rw [List.drop_eq_getElem_cons hlt, e]
  rw [sumV_take_succ hx, List.take_succ_eq_append_getElem hlt, e, List.map_append]
  simp only [chkV, List.any_map, List.map_cons, List.map_nil]
  rfl

theorem checkVars_ret {F : Nat → Prop} {w : World} {x : Value} {vs : List VarT} (h : VarsV F w x vs) (hF : In F w) :
    Ret Try.prog 67 [x] w fun r w' => r = .int .i64 (if vs.length > 8 then 3 else chkV [] 0 vs) ∧ Keep [] w w' := by
  obtain ⟨a, cap, rfl⟩ := h.form
  refine ret_of 42 Try.func67 rfl rfl (by simp) ?_
  (repeat (first | refine pl_pure hT rfl rfl rfl ?_ | refine pl_nil ?_ | refine rn_seq ?_ | refine rn_plain ?_ | refine rn_block ?_ | refine rn_inBlock ?_ | refine rn_skip ?_ | refine rn_true rfl ?_ | refine rn_false rfl ?_ | refine rn_exit rfl ?_ | refine pl_not rfl rfl ?_))
  by_cases h8 : vs.length > 8
  · refine pl_yes rfl rfl rfl rfl rfl (by first | (simp only [cmpP]; omega) | (simp [cmpP]; done) | (simp [cmpP]; omega)) ?_
    (repeat (first | refine pl_pure hT rfl rfl rfl ?_ | refine pl_nil ?_ | refine rn_seq ?_ | refine rn_plain ?_ | refine rn_block ?_ | refine rn_inBlock ?_ | refine rn_skip ?_ | refine rn_true rfl ?_ | refine rn_false rfl ?_ | refine rn_exit rfl ?_ | refine pl_not rfl rfl ?_))
    exact rn_ret Try.func67 (.inl ⟨_, rfl, rfl⟩) ⟨by rw [if_pos h8], Keep.refl _ _⟩
  rw [if_neg h8]
  refine pl_no rfl rfl rfl rfl rfl rfl (by first | (simp only [cmpP]; omega) | (simp [cmpP]; done) | (simp [cmpP]; omega)) ?_
  (repeat (first | refine pl_pure hT rfl rfl rfl ?_ | refine pl_nil ?_ | refine rn_seq ?_ | refine rn_plain ?_ | refine rn_block ?_ | refine rn_inBlock ?_ | refine rn_skip ?_ | refine rn_true rfl ?_ | refine rn_false rfl ?_ | refine rn_exit rfl ?_ | refine pl_not rfl rfl ?_))
  refine rn_ind (fun m σ w' => ∃ i : Nat, i ≤ vs.length ∧ m = vs.length - i ∧ σ = [(0, .slice a vs.length cap), (3, .int .i64 (48 - sumV (vs.take i))), (9, .slice a vs.length cap), (10, .int .i64 (vs.length : Nat)), (11, .int .i64 (i : Nat))] ∧
    chkV [] 0 vs = chkV ((vs.take i).map (·.1)) (sumV (vs.take i)) (vs.drop i) ∧ 0 ≤ sumV (vs.take i) ∧ sumV (vs.take i) ≤ 48 ∧ Keep [] w w') vs.length _ ?_ ⟨0, by omega, by omega, rfl, by simp [sumV], by simp [sumV], by simp [sumV], Keep.refl _ _⟩ ?_
  · exact ⟨rfl, rfl, rfl, rfl, rfl, trivial⟩
  rintro m σ w2 ih ⟨i, hi, rfl, rfl, hch, hs0, hs1, hk2⟩
  (repeat (first | refine pl_pure hT rfl rfl rfl ?_ | refine pl_nil ?_ | refine rn_seq ?_ | refine rn_plain ?_ | refine rn_block ?_ | refine rn_inBlock ?_ | refine rn_skip ?_ | refine rn_true rfl ?_ | refine rn_false rfl ?_ | refine rn_exit rfl ?_ | refine pl_not rfl rfl ?_))
  by_cases hlt : i < vs.length
  · refine pl_yes rfl rfl rfl rfl rfl (by first | (simp only [cmpP]; omega) | (simp [cmpP]; done) | (simp [cmpP]; omega)) ?_
    (repeat (first | refine pl_pure hT rfl rfl rfl ?_ | refine pl_nil ?_ | refine rn_seq ?_ | refine rn_plain ?_ | refine rn_block ?_ | refine rn_inBlock ?_ | refine rn_skip ?_ | refine rn_true rfl ?_ | refine rn_false rfl ?_ | refine rn_exit rfl ?_ | refine pl_not rfl rfl ?_))
    have hget : vs[i]? = some vs[i] := List.getElem?_eq_getElem hlt
    obtain ⟨nm, sz, hnz⟩ : ∃ nm sz, vs[i] = (nm, sz) := ⟨_, _, rfl⟩
    rw [hnz] at hget
    rw [chkV_at hget] at hch
    have hsu : sumV (vs.take (i + 1)) = sumV (vs.take i) + sz := sumV_take_succ hget
    replace hch : chkV [] 0 vs = if nameOk nm = false then 8 else if (vs.take i).any (sameName (nm, sz)) = true then 9 else if sz < 1 ∨ sz > 48 ∨ sumV (vs.take i) + sz > 48 then 1 else chkV ((vs.take (i + 1)).map (·.1)) (sumV (vs.take (i + 1))) (vs.drop (i + 1)) := hch
    have h2 := h.keep hk2 hF.stays
    have hF2 := hF.keep hk2
    obtain ⟨bb, q, cap', hv, _, hra⟩ := h2.at hget
    cases hv
    refine pl_val _ rfl rfl (val_index i hT rfl rfl rfl rfl rfl hlt w2) ?_
    refine pl_val _ rfl rfl (val_load (vcell (nm, sz)) hT rfl rfl rfl hra) ?_
    refine pl_op rfl rfl (opTo_allocN _ rfl zero_var ?_)
    intro w3 c hc3 hsz3 hk3 hc
    (repeat (first | refine pl_pure hT rfl rfl rfl ?_ | refine pl_nil ?_ | refine rn_seq ?_ | refine rn_plain ?_ | refine rn_block ?_ | refine rn_inBlock ?_ | refine rn_skip ?_ | refine rn_true rfl ?_ | refine rn_false rfl ?_ | refine rn_exit rfl ?_ | refine pl_not rfl rfl ?_))
    refine pl_op rfl rfl (opTo_storeN _ rfl rfl rfl rfl (by kernel_rfl) hc (by simp [vcell, varZ]) (vcell_one _) ?_)
    intro w4 hs4 hk4 hc4
    rw [splice_whole (by rfl)] at hc4
    have hk24 : Keep [] w2 w4 := hk3.trB hk4 (by omega)
    have hkw4 := hk2.tr hk24
    (repeat (first | refine pl_pure hT rfl rfl rfl ?_ | refine pl_nil ?_ | refine rn_seq ?_ | refine rn_plain ?_ | refine rn_block ?_ | refine rn_inBlock ?_ | refine rn_skip ?_ | refine rn_true rfl ?_ | refine rn_false rfl ?_ | refine rn_exit rfl ?_ | refine pl_not rfl rfl ?_))
    refine pl_val _ rfl rfl (val_load1 hT rfl rfl rfl (hc4.cell rfl)) ?_
    refine pl_op rfl rfl (opTo_call rfl rfl rfl rfl (by decide +kernel) ((name_ret nm w4).mono ?_))
    rintro v5 w5 ⟨rfl, rfl⟩
    cases hnm : nameOk nm with
    | false =>
      (repeat (first | refine pl_pure hT rfl rfl rfl ?_ | refine pl_nil ?_ | refine rn_seq ?_ | refine rn_plain ?_ | refine rn_block ?_ | refine rn_inBlock ?_ | refine rn_skip ?_ | refine rn_true rfl ?_ | refine rn_false rfl ?_ | refine rn_exit rfl ?_ | refine pl_not rfl rfl ?_))
      exact rn_ret Try.func67 (.inl ⟨_, rfl, rfl⟩) ⟨by rw [hch, if_pos hnm], hkw4⟩
    | true =>
      rw [hnm, if_neg (by simp)] at hch
      (repeat (first | refine pl_pure hT rfl rfl rfl ?_ | refine pl_nil ?_ | refine rn_seq ?_ | refine rn_plain ?_ | refine rn_block ?_ | refine rn_inBlock ?_ | refine rn_skip ?_ | refine rn_true rfl ?_ | refine rn_false rfl ?_ | refine rn_exit rfl ?_ | refine pl_not rfl rfl ?_))
      refine pl_val _ rfl rfl (val_sliceTo i hT rfl rfl rfl rfl rfl ?_ w5) ?_
      · have := h.room; omega
      (repeat (first | refine pl_pure hT rfl rfl rfl ?_ | refine pl_nil ?_ | refine rn_seq ?_ | refine rn_plain ?_ | refine rn_block ?_ | refine rn_inBlock ?_ | refine rn_skip ?_ | refine rn_true rfl ?_ | refine rn_false rfl ?_ | refine rn_exit rfl ?_ | refine pl_not rfl rfl ?_))
      refine pl_op rfl rfl (opTo_call rfl rfl rfl rfl (by decide +kernel) ((contains_ret ((h2.keep hk24 hF2.stays).cut hi) (hF2.keep hk24) hc4 (by rw [List.length_take]; omega)).mono ?_))
      rintro v6 w6 ⟨rfl, hk6⟩
      cases hany : (vs.take i).any (sameName (nm, sz)) with
      | true =>
        (repeat (first | refine pl_pure hT rfl rfl rfl ?_ | refine pl_nil ?_ | refine rn_seq ?_ | refine rn_plain ?_ | refine rn_block ?_ | refine rn_inBlock ?_ | refine rn_skip ?_ | refine rn_true rfl ?_ | refine rn_false rfl ?_ | refine rn_exit rfl ?_ | refine pl_not rfl rfl ?_))
        exact rn_ret Try.func67 (.inl ⟨_, rfl, rfl⟩) ⟨by rw [hch, if_pos hany], hkw4.tr hk6⟩
      | false =>
        rw [hany, if_neg (by simp)] at hch
        have hc6 := hk6.blk hc4 (by simp)
        unfold vcell at hc6
        by_cases h1 : sz < 1
        · (repeat (first | refine pl_pure hT rfl rfl rfl ?_ | refine pl_nil ?_ | refine rn_seq ?_ | refine rn_plain ?_ | refine rn_block ?_ | refine rn_inBlock ?_ | refine rn_skip ?_ | refine rn_true rfl ?_ | refine rn_false rfl ?_ | refine rn_exit rfl ?_ | refine pl_not rfl rfl ?_ | refine pl_val _ rfl rfl (val_load1 hT rfl rfl rfl (Blk.cell (by assumption) (by rfl))) ?_ | refine pl_yes rfl rfl rfl rfl rfl (by first | (simp only [cmpP]; omega) | (simp [cmpP]; done) | (simp [cmpP]; omega)) ?_ | refine pl_no rfl rfl rfl rfl rfl rfl (by first | (simp only [cmpP]; omega) | (simp [cmpP]; done) | (simp [cmpP]; omega)) ?_))
          exact rn_ret Try.func67 (.inl ⟨_, rfl, rfl⟩) ⟨by rw [hch, if_pos (.inl h1)], hkw4.tr hk6⟩
        · by_cases h3 : sz > 48 - sumV (vs.take i)
          · (repeat (first | refine pl_pure hT rfl rfl rfl ?_ | refine pl_nil ?_ | refine rn_seq ?_ | refine rn_plain ?_ | refine rn_block ?_ | refine rn_inBlock ?_ | refine rn_skip ?_ | refine rn_true rfl ?_ | refine rn_false rfl ?_ | refine rn_exit rfl ?_ | refine pl_not rfl rfl ?_ | refine pl_val _ rfl rfl (val_load1 hT rfl rfl rfl (Blk.cell (by assumption) (by rfl))) ?_ | refine pl_yes rfl rfl rfl rfl rfl (by first | (simp only [cmpP]; omega) | (simp [cmpP]; done) | (simp [cmpP]; omega)) ?_ | refine pl_no rfl rfl rfl rfl rfl rfl (by first | (simp only [cmpP]; omega) | (simp [cmpP]; done) | (simp [cmpP]; omega)) ?_))
            exact rn_ret Try.func67 (.inl ⟨_, rfl, rfl⟩) ⟨by rw [hch, if_pos (by omega)], hkw4.tr hk6⟩
          · rw [if_neg (by omega)] at hch
            (repeat (first | refine pl_pure hT rfl rfl rfl ?_ | refine pl_nil ?_ | refine rn_seq ?_ | refine rn_plain ?_ | refine rn_block ?_ | refine rn_inBlock ?_ | refine rn_skip ?_ | refine rn_true rfl ?_ | refine rn_false rfl ?_ | refine rn_exit rfl ?_ | refine pl_not rfl rfl ?_ | refine pl_val _ rfl rfl (val_load1 hT rfl rfl rfl (Blk.cell (by assumption) (by rfl))) ?_ | refine pl_yes rfl rfl rfl rfl rfl (by first | (simp only [cmpP]; omega) | (simp [cmpP]; done) | (simp [cmpP]; omega)) ?_ | refine pl_no rfl rfl rfl rfl rfl rfl (by first | (simp only [cmpP]; omega) | (simp [cmpP]; done) | (simp [cmpP]; omega)) ?_))
            refine pl_num (48 - sumV (vs.take (i + 1))) rfl rfl rfl rfl rfl (by simp only [ariP]; omega) ?_
            (repeat (first | refine pl_pure hT rfl rfl rfl ?_ | refine pl_nil ?_ | refine rn_seq ?_ | refine rn_plain ?_ | refine rn_block ?_ | refine rn_inBlock ?_ | refine rn_skip ?_ | refine rn_true rfl ?_ | refine rn_false rfl ?_ | refine rn_exit rfl ?_ | refine pl_not rfl rfl ?_))
            refine pl_num (((i + 1 : Nat) : Int)) rfl rfl rfl rfl rfl (by simp only [ariP]; omega) ?_
            (repeat (first | refine pl_pure hT rfl rfl rfl ?_ | refine pl_nil ?_ | refine rn_seq ?_ | refine rn_plain ?_ | refine rn_block ?_ | refine rn_inBlock ?_ | refine rn_skip ?_ | refine rn_true rfl ?_ | refine rn_false rfl ?_ | refine rn_exit rfl ?_ | refine pl_not rfl rfl ?_))
            refine rn_sub ?_ (ih (vs.length - (i + 1)) [(0, .slice (some ⟨bb, q, none⟩) vs.length cap), (3, .int .i64 (48 - sumV (vs.take (i + 1)))), (9, .slice (some ⟨bb, q, none⟩) vs.length cap), (10, .int .i64 (vs.length : Nat)), (11, .int .i64 ((i + 1 : Nat) : Int))] w6 (by omega)
              ⟨i + 1, by omega, rfl, rfl, hch, by omega, by omega, hkw4.tr hk6⟩)
            exact ⟨rfl, rfl, rfl, rfl, rfl, trivial⟩
  · refine pl_no rfl rfl rfl rfl rfl rfl (by first | (simp only [cmpP]; omega) | (simp [cmpP]; done) | (simp [cmpP]; omega)) ?_
    (repeat (first | refine pl_pure hT rfl rfl rfl ?_ | refine pl_nil ?_ | refine rn_seq ?_ | refine rn_plain ?_ | refine rn_block ?_ | refine rn_inBlock ?_ | refine rn_skip ?_ | refine rn_true rfl ?_ | refine rn_false rfl ?_ | refine rn_exit rfl ?_ | refine pl_not rfl rfl ?_))
    refine rn_ret Try.func67 (.inl ⟨_, rfl, rfl⟩) ⟨?_, hk2⟩
    rw [hch, List.drop_eq_nil_of_le (by omega)]
    rfl
end E
end Go.Proofs.Ytpbdjpoohpocfab
