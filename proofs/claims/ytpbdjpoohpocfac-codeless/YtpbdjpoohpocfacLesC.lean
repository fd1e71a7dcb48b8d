/- The walk of CodeLess: it tells true. -/
import Derived.Test.YtpbdjpoohpocfacCoI
namespace Go.Proofs.Ytpbdjpoohpocfac
set_option maxRecDepth 20000
set_option maxHeartbeats 4000000
namespace E
open Go.Proofs

/-- A slice of bools. -/
def BoolsV (F : Nat → Prop) (w : World) (v : Value) (l : List Bool) : Prop := ∃ a cap, v = .slice a l.length cap ∧ RowAt F w 1 a l.length (fun i => [.bool (l.getD i false)])
theorem BoolsV.keep {F : Nat → Prop} {w w' : World} {v : Value} {l : List Bool} {fp : List Nat} (h : BoolsV F w v l) (hk : Keep fp w w') (hs : Stays F w fp) : BoolsV F w' v l := by
  obtain ⟨a, cap, hv, hr⟩ := h
  exact ⟨a, cap, hv, hr.keep hk hs⟩
theorem BoolsV.at {F : Nat → Prop} {w : World} {v : Value} {l : List Bool} (h : BoolsV F w v l) {i : Nat} {x : Bool} (hx : l[i]? = some x) : ∃ b q cap, v = .slice (some ⟨b, q, none⟩) l.length cap ∧ w.cell? ⟨b, q + i * 1, none⟩ = some (.bool x) := by
  obtain ⟨a, cap, hv, hr⟩ := h
  obtain ⟨hlt, e⟩ := List.getElem?_eq_some_iff.1 hx
  obtain ⟨b, q, ha, hF, hra⟩ := hr (by omega)
  have := hra i hlt 0 (.bool (l.getD i false)) rfl
  rw [List.getD_eq_getElem?_getD, hx] at this
  exact ⟨b, q, cap, by rw [hv, ha], this⟩

theorem szSs_sub {l l' : List ST} (h : l'.Sublist l) : szSs l' ≤ szSs l := by
  induction h with
  | slnil => exact Nat.le_refl _
  | cons a _ ih => simp only [szSs]; omega
  | cons_cons a _ ih => simp only [szSs]; omega

theorem twelve {cs : List Value} (h : cs.length = 12) : ∃ a b c d e f g i j k l m, cs = [a, b, c, d, e, f, g, i, j, k, l, m] := by
  match cs, h with
  | [a, b, c, d, e, f, g, i, j, k, l, m], _ => exact ⟨a, b, c, d, e, f, g, i, j, k, l, m, rfl⟩
theorem built_prog1 (a : Option Addr) (m c : Nat) : Try.prog.built 25 [(0, .slice a m c)] = some [Value.slice a m c, .slice none 0 0].toArray := by kernel_rfl

theorem codeLess_ret {F : Nat → Prop} {w : World} {x y : Value} {vs : List VarT} {body : List ST} {kp : List Bool} (h : ProgV F w x vs body) (hkp : BoolsV F w y kp) (hF : In F w) (k : Int) :
    Ret Try.prog 3 [x, y, .int .i64 k] w fun r w' => r = .bool true ∧ Keep [] w w' := by
  have hh := h
  obtain ⟨vv, bv, rfl, hv, hb⟩ := h
  obtain ⟨av, capv, rfl⟩ := hv.form
  obtain ⟨ab, capb, rfl⟩ := hb.form
  have hkp0 := hkp
  obtain ⟨ak, capk, rfl, _⟩ := hkp0
  refine ret_of 84 Try.func3 rfl rfl (by simp) ?_
  (repeat (first | refine pl_pure hT rfl rfl rfl ?_ | refine pl_nil ?_ | refine rn_seq ?_ | refine rn_plain ?_ | refine rn_block ?_ | refine rn_inBlock ?_ | refine rn_skip ?_ | refine rn_true rfl ?_ | refine rn_false rfl ?_ | refine rn_exit rfl ?_ | refine pl_not rfl rfl ?_))
  refine pl_op rfl rfl (opTo_boxN [.slice av vs.length capv, .slice ab body.length capb] rfl rfl rfl ?_)
  intro w1 p hp hs1 hk1 hB1
  (repeat (first | refine pl_pure hT rfl rfl rfl ?_ | refine pl_nil ?_ | refine rn_seq ?_ | refine rn_plain ?_ | refine rn_block ?_ | refine rn_inBlock ?_ | refine rn_skip ?_ | refine rn_true rfl ?_ | refine rn_false rfl ?_ | refine rn_exit rfl ?_ | refine pl_not rfl rfl ?_))
  refine pl_op rfl rfl (opTo_call rfl rfl rfl rfl (by decide +kernel) ((begun_ret w1).mono ?_))
  rintro v2 w2 ⟨rfl, hk2'⟩
  have hk2 := hk1.tr hk2'
  have hB2 := hk2'.blk hB1 (by simp)
  (repeat (first | refine pl_pure hT rfl rfl rfl ?_ | refine pl_nil ?_ | refine rn_seq ?_ | refine rn_plain ?_ | refine rn_block ?_ | refine rn_inBlock ?_ | refine rn_skip ?_ | refine rn_true rfl ?_ | refine rn_false rfl ?_ | refine rn_exit rfl ?_ | refine pl_not rfl rfl ?_))
  refine pl_val _ rfl rfl (val_load [.slice av vs.length capv, .slice ab body.length capb] hT rfl rfl rfl (hB2.range (by rfl))) ?_
  refine pl_op rfl rfl (opTo_call rfl rfl rfl rfl (by decide +kernel) ((great_ret (hh.keep hk2 hF.stays) (hF.keep hk2)).mono ?_))
  rintro v3 w3 ⟨⟨g, rfl, hgr⟩, hk3'⟩
  have hk3 := hk2.tr hk3'
  have hB3 := hk3'.blk hB2 (by simp)
  cases g with
  | true =>
    (repeat (first | refine pl_pure hT rfl rfl rfl ?_ | refine pl_nil ?_ | refine rn_seq ?_ | refine rn_plain ?_ | refine rn_block ?_ | refine rn_inBlock ?_ | refine rn_skip ?_ | refine rn_true rfl ?_ | refine rn_false rfl ?_ | refine rn_exit rfl ?_ | refine pl_not rfl rfl ?_))
    exact rn_ret Try.func3 (.inl ⟨_, rfl, rfl⟩) ⟨rfl, hk3⟩
  | false =>
    obtain ⟨h30, _, hsz⟩ := hgr rfl
    (repeat (first | refine pl_pure hT rfl rfl rfl ?_ | refine pl_nil ?_ | refine rn_seq ?_ | refine rn_plain ?_ | refine rn_block ?_ | refine rn_inBlock ?_ | refine rn_skip ?_ | refine rn_true rfl ?_ | refine rn_false rfl ?_ | refine rn_exit rfl ?_ | refine pl_not rfl rfl ?_))
    refine pl_val _ rfl rfl (val_load [.slice av vs.length capv, .slice ab body.length capb] hT rfl rfl rfl (hB3.range (by rfl))) ?_
    refine pl_op rfl rfl (opTo_call rfl rfl rfl rfl (by decide +kernel) ((check_ret (hh.keep hk3 hF.stays) (hF.keep hk3) (by omega)).mono ?_))
    rintro v4 w4 ⟨rfl, hk4'⟩
    have hk4 := hk3.tr hk4'
    have hB4 := hk4'.blk hB3 (by simp)
    by_cases hz : progFault vs body = 0
    · (repeat (first | refine pl_pure hT rfl rfl rfl ?_ | refine pl_nil ?_ | refine rn_seq ?_ | refine rn_plain ?_ | refine rn_block ?_ | refine rn_inBlock ?_ | refine rn_skip ?_ | refine rn_true rfl ?_ | refine rn_false rfl ?_ | refine rn_exit rfl ?_ | refine pl_not rfl rfl ?_ | refine pl_val _ rfl rfl (val_load1 hT rfl rfl rfl (Blk.cell (by assumption) (by rfl))) ?_ | refine pl_yes rfl rfl rfl rfl rfl (by first | (simp only [cmpP]; omega) | (simp [cmpP]; done) | (simp [cmpP]; omega)) ?_ | refine pl_no rfl rfl rfl rfl rfl rfl (by first | (simp only [cmpP]; omega) | (simp [cmpP]; done) | (simp [cmpP]; omega)) ?_))
      refine pl_val _ rfl rfl (val_build _ rfl rfl (built_prog1 _ _ _) w4) ?_
      refine pl_op rfl rfl (opTo_allocN _ rfl zero_prog ?_)
      intro w5 c hc hs5 hk5 hC5
      refine pl_op rfl rfl (opTo_storeN _ rfl rfl rfl rfl (by kernel_rfl) hC5 (by simp [progZ]) (by intro u hu; simp at hu; rcases hu with rfl | rfl <;> rfl) ?_)
      intro w6 hs6 hk6 hC6
      rw [splice_whole (by rfl)] at hC6
      have hk46 : Keep [] w4 w6 := hk5.trB hk6 (by omega)
      have hB6 := hk46.blk hB4 (by simp)
      have hk6w := hk4.tr hk46
      have hpc : p < c := by have := hB4.lt; omega
      have hlen := szSs_len body
      clear hk3' hk4' hk5 hk6 hC5 hk46 hB4 hB3 hB2 hB1 hk2' hk2 hk3
      (repeat (first | refine pl_pure hT rfl rfl rfl ?_ | refine pl_nil ?_ | refine rn_seq ?_ | refine rn_plain ?_ | refine rn_block ?_ | refine rn_inBlock ?_ | refine rn_skip ?_ | refine rn_true rfl ?_ | refine rn_false rfl ?_ | refine rn_exit rfl ?_ | refine pl_not rfl rfl ?_))
      refine rn_ind (fun m σ w' => ∃ (i : Nat) (rv : Value) (ccs : List (List Value)) (l' : List ST), i ≤ body.length ∧ m = body.length - i ∧ σ = [(1, .slice ak kp.length capk), (2, .int .i64 k), (3, .pointer (some ⟨p, 0, none⟩)), (7, .pointer (some ⟨c, 0, none⟩)), (8, .int .i64 (i : Nat))] ∧
        Blk w' p [.slice av vs.length capv, .slice ab body.length capb] 25 ∧ Blk w' c [.slice av vs.length capv, rv] 25 ∧ Own w' (c + 1) 34 12 rv ccs.length ccs.flatten ∧ ccs.length = l'.length ∧ (∀ j (hj : j < l'.length), StmtV F w (ccs.getD j []) (l'[j]'hj)) ∧ l'.Sublist (body.take i) ∧ Keep [] w w')
        body.length _ ?_ ⟨0, _, [], [], by omega, by omega, rfl, hB6, hC6, Own.nil _ _ _ _, rfl, fun j hj => by simp at hj, by simp, hk6w⟩ ?_
      · exact ⟨rfl, rfl, rfl, rfl, rfl, trivial⟩
      clear hB6 hC6 hk6w
      rintro m σ w7 ih ⟨i, rv, ccs, l', hi, rfl, rfl, hB7, hC7, hO7, hcl, hel, hsub, hk7⟩
      have hl'len : l'.length ≤ body.length := by
        have := hsub.length_le
        rw [List.length_take] at this
        omega
      (repeat (first | refine pl_pure hT rfl rfl rfl ?_ | refine pl_nil ?_ | refine rn_seq ?_ | refine rn_plain ?_ | refine rn_block ?_ | refine rn_inBlock ?_ | refine rn_skip ?_ | refine rn_true rfl ?_ | refine rn_false rfl ?_ | refine rn_exit rfl ?_ | refine pl_not rfl rfl ?_))
      refine pl_val _ rfl rfl (val_load1 hT rfl rfl rfl (hB7.cell rfl)) ?_
      (repeat (first | refine pl_pure hT rfl rfl rfl ?_ | refine pl_nil ?_ | refine rn_seq ?_ | refine rn_plain ?_ | refine rn_block ?_ | refine rn_inBlock ?_ | refine rn_skip ?_ | refine rn_true rfl ?_ | refine rn_false rfl ?_ | refine rn_exit rfl ?_ | refine pl_not rfl rfl ?_))
      by_cases hlt : i < body.length
      · refine pl_yes rfl rfl rfl rfl rfl (by first | (simp only [cmpP]; omega) | (simp [cmpP]; done) | (simp [cmpP]; omega)) ?_
        (repeat (first | refine pl_pure hT rfl rfl rfl ?_ | refine pl_nil ?_ | refine rn_seq ?_ | refine rn_plain ?_ | refine rn_block ?_ | refine rn_inBlock ?_ | refine rn_skip ?_ | refine rn_true rfl ?_ | refine rn_false rfl ?_ | refine rn_exit rfl ?_ | refine pl_not rfl rfl ?_))
        have hget : body[i]? = some body[i] := List.getElem?_eq_getElem hlt
        have hF7 := hF.keep hk7
        have hskip : l'.Sublist (body.take (i + 1)) := hsub.trans (by rw [List.take_succ_eq_append_getElem hlt]; exact List.sublist_append_left _ _)
        by_cases hkl : i ≥ kp.length
        · refine pl_yes rfl rfl rfl rfl rfl (by first | (simp only [cmpP]; omega) | (simp [cmpP]; done) | (simp [cmpP]; omega)) ?_
          (repeat (first | refine pl_pure hT rfl rfl rfl ?_ | refine pl_nil ?_ | refine rn_seq ?_ | refine rn_plain ?_ | refine rn_block ?_ | refine rn_inBlock ?_ | refine rn_skip ?_ | refine rn_true rfl ?_ | refine rn_false rfl ?_ | refine rn_exit rfl ?_ | refine pl_not rfl rfl ?_))
          obtain ⟨bb, q, cap', ci, hvv, hFb, hra, hci⟩ := (hb.keep hk7 hF.stays).at hget
          cases hvv
          obtain ⟨_, _, _, ci0, hvv, _, hra0, hci0⟩ := hb.at hget
          cases hvv
          have hci12 := hci0.length
          refine rn_draw (fun w' => Keep [] w7 w') [8, 10] hMix ?_
          have hS : Keep [] w7 w7.drew := (Keep.refl _ _).drew
          generalize w7.drew = w8 at *
          refine dr_pure 0 hT rfl (by decide +kernel) rfl rfl rfl ?_
          refine dr_val 1 rv rfl (by decide +kernel) rfl rfl (fun w9 hS9 => val_load1 hT rfl rfl rfl ((hS9.blk hC7 (by simp)).cell rfl)) hS ?_
          refine dr_pure 2 hT rfl (by decide +kernel) rfl rfl rfl ?_
          refine dr_val 3 _ rfl (by decide +kernel) rfl rfl (fun w9 hS9 => val_load1 hT rfl rfl rfl ((hS9.blk hB7 (by simp)).cell rfl)) hS ?_
          refine dr_pure 4 hT rfl (by decide +kernel) rfl rfl rfl ?_
          refine dr_any 5 _ rfl (by decide +kernel) rfl rfl (fun w => val_index i hT rfl rfl rfl rfl rfl hlt w) ?_
          refine dr_val 6 (.agg ci0.toArray) rfl (by decide +kernel) rfl rfl (fun w9 hS9 => val_load ci0 hT rfl rfl (by rw [hci12]; rfl) (range_keep hra0 (hk7.tr hS9) (hF bb hFb) (by simp))) hS ?_
          obtain ⟨c0, c1, c2, c3, c4, c5, c6, c7, c8, c9, c10, c11, rfl⟩ := twelve hci12
          refine dr_op 7 rfl (by decide +kernel) rfl rfl (opTo_sliceN _ _ rfl rfl (slice_stmt _ _ _ _ _ _ _ _ _ _ _ _) ?_)
          intro w9 x9 hx9 hs9 hk9 hX9
          have hS9 := hS.tr hk9
          refine ⟨fun _ => hS9, ?_⟩
          have hO9 := hO7.keep hS9 (by simp)
          refine dr_op 8 rfl (by decide +kernel) rfl rfl (opTo_app (c + 1) 34 12 160 ccs.flatten [c0, c1, c2, c3, c4, c5, c6, c7, c8, c9, c10, c11] rfl rfl rfl (by decide +kernel) hO9 (hX9.range (by rfl)) rfl hci0.one (by decide) (by unfold maxLen; omega) (by omega) (by have := hC7.lt; have := hS9.size; omega) ?_)
          intro g10 cap10 w10 ho10 hor10
          refine ⟨fun h => absurd h (by simp), ?_⟩
          have keepLow : ∀ (z : Nat) (L : List Value) (e : TypeId), z ≤ c → Blk w7 z L e → Blk w10 z L e := fun z L e hz hB => by
            have h8 := hS9.blk hB (by simp)
            rcases hor10 with ⟨h2, _, h3⟩ | ⟨_, h3, _⟩
            · exact h3.blk h8 (by have := (hO9.lt g10 h2).1; simp; omega)
            · exact h3.blk h8 (by simp)
          have hk10 : Keep [] w w10 := by
            rcases hor10 with ⟨h2, _, h3⟩ | ⟨_, h3, _⟩
            · exact (hk7.tr hS9).trB h3 (by have := (hO9.lt g10 h2).1; have := hk4.size; omega)
            · exact (hk7.tr hS9).tr h3
          have hB10 := keepLow p _ _ (by omega) hB7
          have hC10 := keepLow c _ _ (Nat.le_refl _) hC7
          refine dr_any 9 _ rfl (by decide +kernel) rfl rfl (fun w => val_pure hT rfl w) ?_
          refine dr_op 10 rfl (by decide +kernel) rfl rfl (opTo_storeN [.slice (some ⟨g10, 0, none⟩) (ccs.length + 1) cap10] rfl rfl rfl rfl (by kernel_rfl) hC10 (by simp) (by simp; rfl) ?_)
          intro w11 hs11 hk11 hC11
          refine ⟨fun h => absurd h (by simp), ?_⟩
          refine dr_done (by decide +kernel) ?_
          have hO11 := ho10.keep hk11 (fun z hz => by have := (ho10.lt z hz).1; simp; omega)
          (repeat (first | refine pl_pure hT rfl rfl rfl ?_ | refine pl_nil ?_ | refine rn_seq ?_ | refine rn_plain ?_ | refine rn_block ?_ | refine rn_inBlock ?_ | refine rn_skip ?_ | refine rn_true rfl ?_ | refine rn_false rfl ?_ | refine rn_exit rfl ?_ | refine pl_not rfl rfl ?_))
          refine pl_num (((i + 1 : Nat) : Int)) rfl rfl rfl rfl rfl (by simp only [ariP]; omega) ?_
          (repeat (first | refine pl_pure hT rfl rfl rfl ?_ | refine pl_nil ?_ | refine rn_seq ?_ | refine rn_plain ?_ | refine rn_block ?_ | refine rn_inBlock ?_ | refine rn_skip ?_ | refine rn_true rfl ?_ | refine rn_false rfl ?_ | refine rn_exit rfl ?_ | refine pl_not rfl rfl ?_))
          refine rn_sub ?_ (ih (body.length - (i + 1)) [(1, .slice ak kp.length capk), (2, .int .i64 k), (3, .pointer (some ⟨p, 0, none⟩)), (7, .pointer (some ⟨c, 0, none⟩)), (8, .int .i64 ((i + 1 : Nat) : Int))] w11 (by omega)
            ⟨i + 1, _, ccs ++ [[c0, c1, c2, c3, c4, c5, c6, c7, c8, c9, c10, c11]], l' ++ [body[i]], by omega, rfl, rfl, hk11.blk hB10 (by simp; omega), hC11, ?_, by simp [hcl], fun j hj => ?_, ?_, hk10.trB hk11 (by have := hk4.size; omega)⟩)
          · exact ⟨rfl, rfl, rfl, rfl, rfl, trivial⟩
          · have e1 : (ccs ++ [[c0, c1, c2, c3, c4, c5, c6, c7, c8, c9, c10, c11]]).length = ccs.length + 1 := by simp
            have e2 : (ccs ++ [[c0, c1, c2, c3, c4, c5, c6, c7, c8, c9, c10, c11]]).flatten = ccs.flatten ++ [c0, c1, c2, c3, c4, c5, c6, c7, c8, c9, c10, c11] := by simp
            rw [e1, e2]
            exact hO11
          · rw [getD_snoc j (by simp at hj; omega)]
            simp only [List.length_append, List.length_cons, List.length_nil] at hj
            by_cases e : j = ccs.length
            · rw [if_pos e, List.getElem_append_right (by omega)]
              simp
              exact hci0
            · rw [if_neg e, List.getElem_append_left (by omega)]
              exact hel j (by omega)
          · rw [List.take_succ_eq_append_getElem hlt]
            exact hsub.append (List.Sublist.refl _)
        · refine pl_no rfl rfl rfl rfl rfl rfl (by first | (simp only [cmpP]; omega) | (simp [cmpP]; done) | (simp [cmpP]; omega)) ?_
          (repeat (first | refine pl_pure hT rfl rfl rfl ?_ | refine pl_nil ?_ | refine rn_seq ?_ | refine rn_plain ?_ | refine rn_block ?_ | refine rn_inBlock ?_ | refine rn_skip ?_ | refine rn_true rfl ?_ | refine rn_false rfl ?_ | refine rn_exit rfl ?_ | refine pl_not rfl rfl ?_))
          obtain ⟨kb, hkb⟩ : ∃ x, kp[i]? = some x := ⟨_, List.getElem?_eq_getElem (by omega)⟩
          obtain ⟨bk, qk, _, hvk, hck⟩ := (hkp.keep hk7 hF.stays).at hkb
          cases hvk
          refine pl_val _ rfl rfl (val_index i hT rfl rfl rfl rfl rfl (by omega) w7) ?_
          refine pl_val _ rfl rfl (val_load1 hT rfl rfl rfl (hck)) ?_
          cases kb with
          | true =>
            (repeat (first | refine pl_pure hT rfl rfl rfl ?_ | refine pl_nil ?_ | refine rn_seq ?_ | refine rn_plain ?_ | refine rn_block ?_ | refine rn_inBlock ?_ | refine rn_skip ?_ | refine rn_true rfl ?_ | refine rn_false rfl ?_ | refine rn_exit rfl ?_ | refine pl_not rfl rfl ?_))
            obtain ⟨bb, q, cap', ci, hvv, hFb, hra, hci⟩ := (hb.keep hk7 hF.stays).at hget
            cases hvv
            obtain ⟨_, _, _, ci0, hvv, _, hra0, hci0⟩ := hb.at hget
            cases hvv
            have hci12 := hci0.length
            refine rn_draw (fun w' => Keep [] w7 w') [8, 10] hMix ?_
            have hS : Keep [] w7 w7.drew := (Keep.refl _ _).drew
            generalize w7.drew = w8 at *
            refine dr_pure 0 hT rfl (by decide +kernel) rfl rfl rfl ?_
            refine dr_val 1 rv rfl (by decide +kernel) rfl rfl (fun w9 hS9 => val_load1 hT rfl rfl rfl ((hS9.blk hC7 (by simp)).cell rfl)) hS ?_
            refine dr_pure 2 hT rfl (by decide +kernel) rfl rfl rfl ?_
            refine dr_val 3 _ rfl (by decide +kernel) rfl rfl (fun w9 hS9 => val_load1 hT rfl rfl rfl ((hS9.blk hB7 (by simp)).cell rfl)) hS ?_
            refine dr_pure 4 hT rfl (by decide +kernel) rfl rfl rfl ?_
            refine dr_any 5 _ rfl (by decide +kernel) rfl rfl (fun w => val_index i hT rfl rfl rfl rfl rfl hlt w) ?_
            refine dr_val 6 (.agg ci0.toArray) rfl (by decide +kernel) rfl rfl (fun w9 hS9 => val_load ci0 hT rfl rfl (by rw [hci12]; rfl) (range_keep hra0 (hk7.tr hS9) (hF bb hFb) (by simp))) hS ?_
            obtain ⟨c0, c1, c2, c3, c4, c5, c6, c7, c8, c9, c10, c11, rfl⟩ := twelve hci12
            refine dr_op 7 rfl (by decide +kernel) rfl rfl (opTo_sliceN _ _ rfl rfl (slice_stmt _ _ _ _ _ _ _ _ _ _ _ _) ?_)
            intro w9 x9 hx9 hs9 hk9 hX9
            have hS9 := hS.tr hk9
            refine ⟨fun _ => hS9, ?_⟩
            have hO9 := hO7.keep hS9 (by simp)
            refine dr_op 8 rfl (by decide +kernel) rfl rfl (opTo_app (c + 1) 34 12 160 ccs.flatten [c0, c1, c2, c3, c4, c5, c6, c7, c8, c9, c10, c11] rfl rfl rfl (by decide +kernel) hO9 (hX9.range (by rfl)) rfl hci0.one (by decide) (by unfold maxLen; omega) (by omega) (by have := hC7.lt; have := hS9.size; omega) ?_)
            intro g10 cap10 w10 ho10 hor10
            refine ⟨fun h => absurd h (by simp), ?_⟩
            have keepLow : ∀ (z : Nat) (L : List Value) (e : TypeId), z ≤ c → Blk w7 z L e → Blk w10 z L e := fun z L e hz hB => by
              have h8 := hS9.blk hB (by simp)
              rcases hor10 with ⟨h2, _, h3⟩ | ⟨_, h3, _⟩
              · exact h3.blk h8 (by have := (hO9.lt g10 h2).1; simp; omega)
              · exact h3.blk h8 (by simp)
            have hk10 : Keep [] w w10 := by
              rcases hor10 with ⟨h2, _, h3⟩ | ⟨_, h3, _⟩
              · exact (hk7.tr hS9).trB h3 (by have := (hO9.lt g10 h2).1; have := hk4.size; omega)
              · exact (hk7.tr hS9).tr h3
            have hB10 := keepLow p _ _ (by omega) hB7
            have hC10 := keepLow c _ _ (Nat.le_refl _) hC7
            refine dr_any 9 _ rfl (by decide +kernel) rfl rfl (fun w => val_pure hT rfl w) ?_
            refine dr_op 10 rfl (by decide +kernel) rfl rfl (opTo_storeN [.slice (some ⟨g10, 0, none⟩) (ccs.length + 1) cap10] rfl rfl rfl rfl (by kernel_rfl) hC10 (by simp) (by simp; rfl) ?_)
            intro w11 hs11 hk11 hC11
            refine ⟨fun h => absurd h (by simp), ?_⟩
            refine dr_done (by decide +kernel) ?_
            have hO11 := ho10.keep hk11 (fun z hz => by have := (ho10.lt z hz).1; simp; omega)
            (repeat (first | refine pl_pure hT rfl rfl rfl ?_ | refine pl_nil ?_ | refine rn_seq ?_ | refine rn_plain ?_ | refine rn_block ?_ | refine rn_inBlock ?_ | refine rn_skip ?_ | refine rn_true rfl ?_ | refine rn_false rfl ?_ | refine rn_exit rfl ?_ | refine pl_not rfl rfl ?_))
            refine pl_num (((i + 1 : Nat) : Int)) rfl rfl rfl rfl rfl (by simp only [ariP]; omega) ?_
            (repeat (first | refine pl_pure hT rfl rfl rfl ?_ | refine pl_nil ?_ | refine rn_seq ?_ | refine rn_plain ?_ | refine rn_block ?_ | refine rn_inBlock ?_ | refine rn_skip ?_ | refine rn_true rfl ?_ | refine rn_false rfl ?_ | refine rn_exit rfl ?_ | refine pl_not rfl rfl ?_))
            refine rn_sub ?_ (ih (body.length - (i + 1)) [(1, .slice (some ⟨bk, qk, none⟩) kp.length capk), (2, .int .i64 k), (3, .pointer (some ⟨p, 0, none⟩)), (7, .pointer (some ⟨c, 0, none⟩)), (8, .int .i64 ((i + 1 : Nat) : Int))] w11 (by omega)
              ⟨i + 1, _, ccs ++ [[c0, c1, c2, c3, c4, c5, c6, c7, c8, c9, c10, c11]], l' ++ [body[i]], by omega, rfl, rfl, hk11.blk hB10 (by simp; omega), hC11, ?_, by simp [hcl], fun j hj => ?_, ?_, hk10.trB hk11 (by have := hk4.size; omega)⟩)
            · exact ⟨rfl, rfl, rfl, rfl, rfl, trivial⟩
            · have e1 : (ccs ++ [[c0, c1, c2, c3, c4, c5, c6, c7, c8, c9, c10, c11]]).length = ccs.length + 1 := by simp
              have e2 : (ccs ++ [[c0, c1, c2, c3, c4, c5, c6, c7, c8, c9, c10, c11]]).flatten = ccs.flatten ++ [c0, c1, c2, c3, c4, c5, c6, c7, c8, c9, c10, c11] := by simp
              rw [e1, e2]
              exact hO11
            · rw [getD_snoc j (by simp at hj; omega)]
              simp only [List.length_append, List.length_cons, List.length_nil] at hj
              by_cases e : j = ccs.length
              · rw [if_pos e, List.getElem_append_right (by omega)]
                simp
                exact hci0
              · rw [if_neg e, List.getElem_append_left (by omega)]
                exact hel j (by omega)
            · rw [List.take_succ_eq_append_getElem hlt]
              exact hsub.append (List.Sublist.refl _)
          | false =>
            (repeat (first | refine pl_pure hT rfl rfl rfl ?_ | refine pl_nil ?_ | refine rn_seq ?_ | refine rn_plain ?_ | refine rn_block ?_ | refine rn_inBlock ?_ | refine rn_skip ?_ | refine rn_true rfl ?_ | refine rn_false rfl ?_ | refine rn_exit rfl ?_ | refine pl_not rfl rfl ?_))
            refine pl_num (((i + 1 : Nat) : Int)) rfl rfl rfl rfl rfl (by simp only [ariP]; omega) ?_
            (repeat (first | refine pl_pure hT rfl rfl rfl ?_ | refine pl_nil ?_ | refine rn_seq ?_ | refine rn_plain ?_ | refine rn_block ?_ | refine rn_inBlock ?_ | refine rn_skip ?_ | refine rn_true rfl ?_ | refine rn_false rfl ?_ | refine rn_exit rfl ?_ | refine pl_not rfl rfl ?_))
            refine rn_sub ?_ (ih (body.length - (i + 1)) [(1, .slice (some ⟨bk, qk, none⟩) kp.length capk), (2, .int .i64 k), (3, .pointer (some ⟨p, 0, none⟩)), (7, .pointer (some ⟨c, 0, none⟩)), (8, .int .i64 ((i + 1 : Nat) : Int))] w7 (by omega)
              ⟨i + 1, rv, ccs, l', by omega, rfl, rfl, hB7, hC7, hO7, hcl, hel, hskip, hk7⟩)
            exact ⟨rfl, rfl, rfl, rfl, rfl, trivial⟩
      · refine pl_no rfl rfl rfl rfl rfl rfl (by first | (simp only [cmpP]; omega) | (simp [cmpP]; done) | (simp [cmpP]; omega)) ?_
        (repeat (first | refine pl_pure hT rfl rfl rfl ?_ | refine pl_nil ?_ | refine rn_seq ?_ | refine rn_plain ?_ | refine rn_block ?_ | refine rn_inBlock ?_ | refine rn_skip ?_ | refine rn_true rfl ?_ | refine rn_false rfl ?_ | refine rn_exit rfl ?_ | refine pl_not rfl rfl ?_))
        rw [List.take_of_length_le (by omega)] at hsub
        have hsubsz := szSs_sub hsub
        obtain ⟨ar, capr, rfl⟩ := hO7.form
        have hless : ProgV (fun b => b < w7.heap.size) w7 (.agg #[.slice av vs.length capv, .slice ar ccs.length capr]) vs l' := by
          refine ⟨_, _, rfl, (hv.keep hk7 hF.stays).mono (fun b hb => hF.keep hk7 b hb), ?_⟩
          exact (stmts_of_own (F := F) hO7 hcl (fun j hj => (hel j hj).keep hk7 hF.stays)).mono (fun b hb => hb.elim (fun h => (hO7.lt b h).2) (fun h => hF.keep hk7 b h))
        refine pl_val _ rfl rfl (val_load [.slice av vs.length capv, .slice ar ccs.length capr] hT rfl rfl rfl (hC7.range (by rfl))) ?_
        refine pl_op rfl rfl (opTo_call rfl rfl rfl rfl (by decide +kernel) ((check_ret hless (In.lt w7) (by omega)).mono ?_))
        rintro v8 w8 ⟨rfl, hk8'⟩
        rw [progFault_sub hz hsub]
        have hk8 := hk7.tr hk8'
        have hB8 := hk8'.blk hB7 (by simp)
        (repeat (first | refine pl_pure hT rfl rfl rfl ?_ | refine pl_nil ?_ | refine rn_seq ?_ | refine rn_plain ?_ | refine rn_block ?_ | refine rn_inBlock ?_ | refine rn_skip ?_ | refine rn_true rfl ?_ | refine rn_false rfl ?_ | refine rn_exit rfl ?_ | refine pl_not rfl rfl ?_ | refine pl_val _ rfl rfl (val_load1 hT rfl rfl rfl (Blk.cell (by assumption) (by rfl))) ?_ | refine pl_yes rfl rfl rfl rfl rfl (by first | (simp only [cmpP]; omega) | (simp [cmpP]; done) | (simp [cmpP]; omega)) ?_ | refine pl_no rfl rfl rfl rfl rfl rfl (by first | (simp only [cmpP]; omega) | (simp [cmpP]; done) | (simp [cmpP]; omega)) ?_))
        rcases Nat.eq_zero_or_pos body.length with h0 | h0
        · refine pl_yes rfl rfl rfl rfl rfl (by first | (simp only [cmpP]; omega) | (simp [cmpP]; done) | (simp [cmpP]; omega)) ?_
          (repeat (first | refine pl_pure hT rfl rfl rfl ?_ | refine pl_nil ?_ | refine rn_seq ?_ | refine rn_plain ?_ | refine rn_block ?_ | refine rn_inBlock ?_ | refine rn_skip ?_ | refine rn_true rfl ?_ | refine rn_false rfl ?_ | refine rn_exit rfl ?_ | refine pl_not rfl rfl ?_))
          exact rn_ret Try.func3 (.inl ⟨_, rfl, rfl⟩) ⟨rfl, hk8⟩
        · refine pl_no rfl rfl rfl rfl rfl rfl (by first | (simp only [cmpP]; omega) | (simp [cmpP]; done) | (simp [cmpP]; omega)) ?_
          (repeat (first | refine pl_pure hT rfl rfl rfl ?_ | refine pl_nil ?_ | refine rn_seq ?_ | refine rn_plain ?_ | refine rn_block ?_ | refine rn_inBlock ?_ | refine rn_skip ?_ | refine rn_true rfl ?_ | refine rn_false rfl ?_ | refine rn_exit rfl ?_ | refine pl_not rfl rfl ?_))
          have hF8 := hF.keep hk8
          refine rn_draw (fun w' => Keep [] w8 w') [13] hMix ?_
          have hS : Keep [] w8 w8.drew := (Keep.refl _ _).drew
          generalize w8.drew = w9 at *
          refine dr_pure 0 hT rfl (by decide +kernel) rfl rfl rfl ?_
          refine dr_val 1 _ rfl (by decide +kernel) rfl rfl (fun w9 hS9 => val_load1 hT rfl rfl rfl ((hS9.blk hB8 (by simp)).cell rfl)) hS ?_
          refine dr_pure 2 hT rfl (by decide +kernel) rfl rfl rfl ?_
          have hm0 : 0 ≤ IntKind.u64.wrap k := by
            have e : IntKind.u64.wrap k = k % 18446744073709551616 := by simp [IntKind.wrap, IntKind.bits, IntKind.signed]
            rw [e]
            omega
          refine dr_any 3 (.int .u64 (IntKind.u64.wrap k)) rfl (by decide +kernel) rfl rfl (fun w => val_conv .i64 .u64 k _ rfl rfl (by decide +kernel) rfl w) ?_
          generalize IntKind.u64.wrap k = ku at *
          refine dr_pure 4 hT rfl (by decide +kernel) rfl rfl rfl ?_
          refine dr_val 5 _ rfl (by decide +kernel) rfl rfl (fun w9 hS9 => val_load1 hT rfl rfl rfl ((hS9.blk hB8 (by simp)).cell rfl)) hS ?_
          refine dr_pure 6 hT rfl (by decide +kernel) rfl rfl rfl ?_
          refine dr_any 7 (.int .u64 (body.length : Nat)) rfl (by decide +kernel) rfl rfl (fun w => val_conv .i64 .u64 _ _ rfl rfl (by decide +kernel) (wrap_u64 (by omega) (by omega)) w) ?_
          obtain ⟨j, hj, hjl⟩ : ∃ j : Nat, ku.tmod (body.length : Nat) = (j : Int) ∧ j < body.length := by
            have h1 : 0 ≤ ku.tmod (body.length : Nat) := Int.tmod_nonneg _ hm0
            have h2 : ku.tmod (body.length : Nat) < (body.length : Nat) := Int.tmod_lt_of_pos _ (by omega)
            exact ⟨(ku.tmod (body.length : Nat)).toNat, by omega, by omega⟩
          refine dr_any 8 (.int .u64 (j : Nat)) rfl (by decide +kernel) rfl rfl (fun w => val_int .u64 _ _ _ rfl rfl rfl (by simp only [intOp]; rw [if_neg (by omega), hj]) w) ?_
          refine dr_any 9 (.int .i64 (j : Nat)) rfl (by decide +kernel) rfl rfl (fun w => val_conv .u64 .i64 _ _ rfl rfl (by decide +kernel) (wrap_i64 (by omega) (by omega)) w) ?_
          have hget : body[j]? = some body[j] := List.getElem?_eq_getElem hjl
          have hszj := szSs_at hget
          obtain ⟨op, v, e, f, lb, lo, hs⟩ : ∃ op v e f lb lo, body[j] = ST.mk op v e f lb lo := by cases body[j]; exact ⟨_, _, _, _, _, _, rfl⟩
          have hmem : ST.mk op v e f lb lo ∈ body := by rw [← hs]; exact List.getElem_mem _
          rw [hs] at hget hszj
          simp only [szS] at hszj
          obtain ⟨hz1, hz2⟩ := progFault_in hz hmem
          obtain ⟨bb, q, _, ce, cf, bv', ov, hvv, hat⟩ := (hb.keep hk8 hF.stays).stmtAt hget
          cases hvv
          have h12 : (scells op v ce cf bv' ov).length = 12 := by simp [scells, hat.he.length, hat.hf.length]
          refine dr_any 10 _ rfl (by decide +kernel) rfl rfl (fun w => val_index j hT rfl rfl rfl rfl rfl hjl w) ?_
          refine dr_val 11 _ rfl (by decide +kernel) rfl rfl (fun w9 hS9 => val_load (scells op v ce cf bv' ov) hT rfl rfl (by rw [h12]; rfl) (hat.keep hS9 hF8.stays).whole) hS ?_
          refine dr_op 12 rfl (by decide +kernel) rfl rfl (opTo_allocN _ rfl zero_stmt ?_)
          intro w10 d hd hs10 hk10 hD10
          refine ⟨fun _ => hS.tr hk10, ?_⟩
          refine dr_op 13 rfl (by decide +kernel) rfl rfl (opTo_storeN _ rfl rfl rfl rfl (by rw [h12]; decide +kernel) hD10 (by rw [h12]; decide) hat.stmt.one ?_)
          intro w11 hs11 hk11 hD11
          refine ⟨fun h => absurd h (by simp), ?_⟩
          refine dr_done (by decide +kernel) ?_
          rw [splice_whole (by rw [h12]; rfl)] at hD11
          have hk811 : Keep [] w8 w11 := (hS.tr hk10).trB hk11 (by have := hS.size; omega)
          have hat11 := hat.keep hk811 hF8.stays
          have hB11 := hk811.blk hB8 (by simp)
          have hk11w := hk8.tr hk811
          have hF11 := hF.keep hk11w
          have hd4 : (scells op v ce cf bv' ov)[10]? = some bv' := by rw [scells]; obtain ⟨_, _, _, _, rfl⟩ := list4 hat11.he.length; obtain ⟨_, _, _, _, rfl⟩ := list4 hat11.hf.length; rfl
          have hd5 : (scells op v ce cf bv' ov)[11]? = some ov := by rw [scells]; obtain ⟨_, _, _, _, rfl⟩ := list4 hat11.he.length; obtain ⟨_, _, _, _, rfl⟩ := list4 hat11.hf.length; rfl
          obtain ⟨ab', capb', rfl⟩ := hat11.hb.form
          obtain ⟨ao', capo', rfl⟩ := hat11.ho.form
          (repeat (first | refine pl_pure hT rfl rfl rfl ?_ | refine pl_nil ?_ | refine rn_seq ?_ | refine rn_plain ?_ | refine rn_block ?_ | refine rn_inBlock ?_ | refine rn_skip ?_ | refine rn_true rfl ?_ | refine rn_false rfl ?_ | refine rn_exit rfl ?_ | refine pl_not rfl rfl ?_))
          refine pl_val _ rfl rfl (val_load1 hT rfl rfl rfl (hB11.cell rfl)) ?_
          (repeat (first | refine pl_pure hT rfl rfl rfl ?_ | refine pl_nil ?_ | refine rn_seq ?_ | refine rn_plain ?_ | refine rn_block ?_ | refine rn_inBlock ?_ | refine rn_skip ?_ | refine rn_true rfl ?_ | refine rn_false rfl ?_ | refine rn_exit rfl ?_ | refine pl_not rfl rfl ?_))
          refine pl_val _ rfl rfl (val_load1 hT rfl rfl rfl (hD11.cell hd4)) ?_
          refine pl_val _ rfl rfl (val_build _ rfl rfl (built_prog _ _ _ _ _ _) w11) ?_
          refine pl_op rfl rfl (opTo_call rfl rfl rfl rfl (by decide +kernel) ((check_ret (F := F) (vs := vs) (body := lb) ⟨_, _, rfl, hv.keep hk11w hF.stays, hat11.hb⟩ hF11 (by omega)).mono ?_))
          rintro v12 w12 ⟨rfl, hk12⟩
          rw [hz1]
          have hB12 := hk12.blk hB11 (by simp)
          have hD12 := hk12.blk hD11 (by simp)
          (repeat (first | refine pl_pure hT rfl rfl rfl ?_ | refine pl_nil ?_ | refine rn_seq ?_ | refine rn_plain ?_ | refine rn_block ?_ | refine rn_inBlock ?_ | refine rn_skip ?_ | refine rn_true rfl ?_ | refine rn_false rfl ?_ | refine rn_exit rfl ?_ | refine pl_not rfl rfl ?_ | refine pl_val _ rfl rfl (val_load1 hT rfl rfl rfl (Blk.cell (by assumption) (by rfl))) ?_ | refine pl_yes rfl rfl rfl rfl rfl (by first | (simp only [cmpP]; omega) | (simp [cmpP]; done) | (simp [cmpP]; omega)) ?_ | refine pl_no rfl rfl rfl rfl rfl rfl (by first | (simp only [cmpP]; omega) | (simp [cmpP]; done) | (simp [cmpP]; omega)) ?_))
          refine pl_val _ rfl rfl (val_load1 hT rfl rfl rfl (hD12.cell hd5)) ?_
          refine pl_val _ rfl rfl (val_build _ rfl rfl (built_prog _ _ _ _ _ _) w12) ?_
          refine pl_op rfl rfl (opTo_call rfl rfl rfl rfl (by decide +kernel) ((check_ret (F := F) (vs := vs) (body := lo) ⟨_, _, rfl, hv.keep (hk11w.tr hk12) hF.stays, hat11.ho.keep hk12 hF11.stays⟩ (hF11.keep hk12) (by omega)).mono ?_))
          rintro v13 w13 ⟨rfl, hk13⟩
          rw [hz2]
          (repeat (first | refine pl_pure hT rfl rfl rfl ?_ | refine pl_nil ?_ | refine rn_seq ?_ | refine rn_plain ?_ | refine rn_block ?_ | refine rn_inBlock ?_ | refine rn_skip ?_ | refine rn_true rfl ?_ | refine rn_false rfl ?_ | refine rn_exit rfl ?_ | refine pl_not rfl rfl ?_ | refine pl_val _ rfl rfl (val_load1 hT rfl rfl rfl (Blk.cell (by assumption) (by rfl))) ?_ | refine pl_yes rfl rfl rfl rfl rfl (by first | (simp only [cmpP]; omega) | (simp [cmpP]; done) | (simp [cmpP]; omega)) ?_ | refine pl_no rfl rfl rfl rfl rfl rfl (by first | (simp only [cmpP]; omega) | (simp [cmpP]; done) | (simp [cmpP]; omega)) ?_))
          exact rn_ret Try.func3 (.inl ⟨_, rfl, rfl⟩) ⟨rfl, (hk11w.tr hk12).tr hk13⟩
    · (repeat (first | refine pl_pure hT rfl rfl rfl ?_ | refine pl_nil ?_ | refine rn_seq ?_ | refine rn_plain ?_ | refine rn_block ?_ | refine rn_inBlock ?_ | refine rn_skip ?_ | refine rn_true rfl ?_ | refine rn_false rfl ?_ | refine rn_exit rfl ?_ | refine pl_not rfl rfl ?_ | refine pl_val _ rfl rfl (val_load1 hT rfl rfl rfl (Blk.cell (by assumption) (by rfl))) ?_ | refine pl_yes rfl rfl rfl rfl rfl (by first | (simp only [cmpP]; omega) | (simp [cmpP]; done) | (simp [cmpP]; omega)) ?_ | refine pl_no rfl rfl rfl rfl rfl rfl (by first | (simp only [cmpP]; omega) | (simp [cmpP]; done) | (simp [cmpP]; omega)) ?_))
      exact rn_ret Try.func3 (.inl ⟨_, rfl, rfl⟩) ⟨rfl, hk4⟩
end E
end Go.Proofs.Ytpbdjpoohpocfac
