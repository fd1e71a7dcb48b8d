/- Contracts of the document's functions that go through a program's trees: how many parts, and whether it is great. -/
import Derived.Test.YtpbdjpoohpocfacProg
import Derived.Test.YtpbdjpoohpocfacTreeB
namespace Go.Proofs.Ytpbdjpoohpocfac
set_option maxRecDepth 20000
set_option maxHeartbeats 4000000
namespace E
open Go.Proofs

def tbl : Tbl := { fld := [(24, [(0, 0), (1, 1)]), (25, [(0, 0), (1, 1)]), (31, [(0, 0), (1, 1), (2, 2), (3, 3)]), (32, [(0, 0), (1, 1), (2, 2), (3, 3)]), (33, [(0, 0), (1, 1), (2, 2), (3, 6), (4, 10), (5, 11)]), (34, [(0, 0), (1, 1), (2, 2), (3, 6), (4, 10), (5, 11)]), (37, [(0, 0), (1, 1)]), (38, [(0, 0), (1, 1)]), (47, [(0, 0), (1, 1), (2, 2), (3, 3), (4, 4)]), (48, [(0, 0), (1, 1), (2, 2), (3, 3), (4, 4)]), (53, [(0, 0), (1, 1)]), (54, [(0, 0), (1, 1)]), (57, [(0, 0), (1, 1)]), (58, [(0, 0), (1, 1)]), (75, [(0, 0), (1, 1), (2, 2)]), (76, [(0, 0), (1, 1), (2, 2)]), (77, []), (79, [(0, 0), (1, 1)]), (80, [(0, 0), (1, 1)]), (83, [(0, 0), (1, 1), (2, 2)]), (84, [(0, 0), (1, 1), (2, 2)]), (85, [(0, 0), (1, 1)]), (86, [(0, 0), (1, 1)]), (108, [(0, 0), (1, 1), (2, 2), (3, 3), (4, 4), (5, 5), (6, 6), (7, 7), (8, 8), (9, 9), (10, 10)])], sl := [(22, 2), (23, 12), (26, 1), (30, 4), (52, 2), (56, 2)], ar := [(97, (0, 1))], one := [(1, ()), (2, ()), (3, ()), (4, ()), (5, ()), (6, ()), (9, ()), (10, ()), (11, ()), (12, ()), (15, ()), (16, ()), (17, ()), (21, ()), (22, ()), (23, ()), (26, ()), (27, ()), (28, ()), (29, ()), (30, ()), (35, ()), (36, ()), (39, ()), (40, ()), (41, ()), (42, ()), (43, ()), (44, ()), (45, ()), (46, ()), (49, ()), (50, ()), (51, ()), (52, ()), (55, ()), (56, ()), (59, ()), (60, ()), (61, ()), (62, ()), (63, ()), (64, ()), (65, ()), (66, ()), (67, ()), (68, ()), (69, ()), (70, ()), (71, ()), (72, ()), (73, ()), (74, ()), (81, ()), (82, ()), (87, ()), (88, ()), (89, ()), (91, ()), (92, ()), (93, ()), (94, ()), (100, ()), (101, ()), (102, ()), (103, ()), (104, ()), (105, ()), (106, ()), (107, ())], ag := [(24, 2), (25, 2), (31, 4), (32, 4), (33, 12), (34, 12), (37, 2), (38, 2), (47, 5), (48, 5), (53, 2), (54, 2), (57, 2), (58, 2), (75, 3), (76, 3), (77, 0), (79, 2), (80, 2), (83, 3), (84, 3), (85, 2), (86, 2), (97, 0), (108, 11)] }
theorem hT : tbl.check Try.prog = true := by decide +kernel
theorem hMix : Try.prog.follows .mixedOrders = true := by decide +kernel

theorem exprParts_ret : ∀ (k : Nat) (t : ET), szE t ≤ k → ∀ {F : Nat → Prop} {w : World} {cs : List Value} (most : Nat), ExprV F w cs t → In F w → most ≤ 900 →
    Ret Try.prog 25 [.agg cs.toArray, .int .i64 (most : Nat)] w fun v w' => v = .int .i64 ((min (szE t) (most + 1) : Nat)) ∧ Keep [] w w' := by
  intro k
  induction k with
  | zero => intro t ht; have := szE_pos t; omega
  | succ k ih =>
    intro t ht F w cs most h hF hm
    obtain ⟨op, v, n, l⟩ := t
    obtain ⟨lv, rfl, hl⟩ := h.inv
    obtain ⟨a, cap, rfl⟩ := hl.form
    simp only [szE] at ht ⊢
    refine ret_of 31 Try.func25 rfl rfl (by simp) ?_
    (repeat (first | refine pl_pure hT rfl rfl rfl ?_ | refine pl_nil ?_ | refine rn_seq ?_ | refine rn_plain ?_ | refine rn_block ?_ | refine rn_inBlock ?_ | refine rn_skip ?_ | refine rn_true rfl ?_ | refine rn_false rfl ?_ | refine rn_exit rfl ?_ | refine pl_not rfl rfl ?_))
    refine pl_op rfl rfl (opTo_box [.int .i64 op, .int .i64 v, .int .i64 n, .slice a l.length cap] rfl rfl rfl ?_)
    have hk0 : Keep [] w (w.alloc (.cells [.int .i64 op, .int .i64 v, .int .i64 n, .slice a l.length cap].toArray 32)) := (Keep.refl _ _).alloc _
    have hb0 : Blk (w.alloc (.cells [.int .i64 op, .int .i64 v, .int .i64 n, .slice a l.length cap].toArray 32)) w.heap.size [.int .i64 op, .int .i64 v, .int .i64 n, .slice a l.length cap] 32 := Blk.new _ _ _
    generalize (w.alloc (.cells [.int .i64 op, .int .i64 v, .int .i64 n, .slice a l.length cap].toArray 32)) = w1 at *
    generalize w.heap.size = b at *
    (repeat (first | refine pl_pure hT rfl rfl rfl ?_ | refine pl_nil ?_ | refine rn_seq ?_ | refine rn_plain ?_ | refine rn_block ?_ | refine rn_inBlock ?_ | refine rn_skip ?_ | refine rn_true rfl ?_ | refine rn_false rfl ?_ | refine rn_exit rfl ?_ | refine pl_not rfl rfl ?_))
    refine rn_ind (fun m σ w' => ∃ i nn : Nat, i ≤ l.length ∧ m = l.length - i ∧ σ = [(1, .int .i64 (most : Nat)), (2, .pointer (some ⟨b, 0, none⟩)), (5, .int .i64 (nn : Nat)), (6, .int .i64 (i : Nat))] ∧ nn = min (1 + szEs (l.take i)) (most + 1) ∧
      Blk w' b [.int .i64 op, .int .i64 v, .int .i64 n, .slice a l.length cap] 32 ∧ Keep [] w w') l.length _ ?_ ⟨0, 1, by omega, by omega, rfl, by simp [szEs], hb0, hk0⟩ ?_
    · exact ⟨rfl, rfl, rfl, rfl, trivial⟩
    rintro m σ w2 ih2 ⟨i, nn, hi, rfl, rfl, hn, hb2, hk2⟩
    (repeat (first | refine pl_pure hT rfl rfl rfl ?_ | refine pl_nil ?_ | refine rn_seq ?_ | refine rn_plain ?_ | refine rn_block ?_ | refine rn_inBlock ?_ | refine rn_skip ?_ | refine rn_true rfl ?_ | refine rn_false rfl ?_ | refine rn_exit rfl ?_ | refine pl_not rfl rfl ?_))
    refine pl_val _ rfl rfl (val_load1 hT rfl rfl rfl (hb2.cell rfl)) ?_
    (repeat (first | refine pl_pure hT rfl rfl rfl ?_ | refine pl_nil ?_ | refine rn_seq ?_ | refine rn_plain ?_ | refine rn_block ?_ | refine rn_inBlock ?_ | refine rn_skip ?_ | refine rn_true rfl ?_ | refine rn_false rfl ?_ | refine rn_exit rfl ?_ | refine pl_not rfl rfl ?_))
    have hle := szEs_take l i
    have hge := szEs_ge hi
    by_cases hlt : i < l.length
    · refine pl_yes rfl rfl rfl rfl rfl (by first | (simp only [cmpP]; omega) | (simp [cmpP]; done) | (simp [cmpP]; omega)) ?_
      (repeat (first | refine pl_pure hT rfl rfl rfl ?_ | refine pl_nil ?_ | refine rn_seq ?_ | refine rn_plain ?_ | refine rn_block ?_ | refine rn_inBlock ?_ | refine rn_skip ?_ | refine rn_true rfl ?_ | refine rn_false rfl ?_ | refine rn_exit rfl ?_ | refine pl_not rfl rfl ?_))
      by_cases hnm : nn ≤ most
      · refine pl_yes rfl rfl rfl rfl rfl (by first | (simp only [cmpP]; omega) | (simp [cmpP]; done) | (simp [cmpP]; omega)) ?_
        (repeat (first | refine pl_pure hT rfl rfl rfl ?_ | refine pl_nil ?_ | refine rn_seq ?_ | refine rn_plain ?_ | refine rn_block ?_ | refine rn_inBlock ?_ | refine rn_skip ?_ | refine rn_true rfl ?_ | refine rn_false rfl ?_ | refine rn_exit rfl ?_ | refine pl_not rfl rfl ?_))
        refine pl_val _ rfl rfl (val_load1 hT rfl rfl rfl (hb2.cell rfl)) ?_
        (repeat (first | refine pl_pure hT rfl rfl rfl ?_ | refine pl_nil ?_ | refine rn_seq ?_ | refine rn_plain ?_ | refine rn_block ?_ | refine rn_inBlock ?_ | refine rn_skip ?_ | refine rn_true rfl ?_ | refine rn_false rfl ?_ | refine rn_exit rfl ?_ | refine pl_not rfl rfl ?_))
        have hget : l[i]? = some l[i] := List.getElem?_eq_getElem hlt
        obtain ⟨bb, q, cap', ci, hv, _, hra, hci⟩ := (hl.keep hk2 hF.stays).at hget
        cases hv
        refine pl_val _ rfl rfl (val_index i hT rfl rfl rfl rfl rfl hlt w2) ?_
        refine pl_val (.agg ci.toArray) rfl rfl (val_load ci hT rfl rfl (by rw [hci.length]; rfl) hra) ?_
        (repeat (first | refine pl_pure hT rfl rfl rfl ?_ | refine pl_nil ?_ | refine rn_seq ?_ | refine rn_plain ?_ | refine rn_block ?_ | refine rn_inBlock ?_ | refine rn_skip ?_ | refine rn_true rfl ?_ | refine rn_false rfl ?_ | refine rn_exit rfl ?_ | refine pl_not rfl rfl ?_))
        refine pl_num (((most - nn : Nat) : Int)) rfl rfl rfl rfl rfl (by simp only [ariP]; omega) ?_
        have hsz := szEs_at hget
        have hsu := szEs_succ hget
        refine pl_op rfl rfl (opTo_call rfl rfl rfl rfl (by decide +kernel) ((ih l[i] (by omega) (most - nn) hci (hF.keep hk2) (by omega)).mono ?_))
        rintro v3 w3 ⟨rfl, hk3⟩
        refine pl_num (((nn + min (szE l[i]) (most - nn + 1) : Nat) : Int)) rfl rfl rfl rfl rfl (by simp only [ariP]; omega) ?_
        (repeat (first | refine pl_pure hT rfl rfl rfl ?_ | refine pl_nil ?_ | refine rn_seq ?_ | refine rn_plain ?_ | refine rn_block ?_ | refine rn_inBlock ?_ | refine rn_skip ?_ | refine rn_true rfl ?_ | refine rn_false rfl ?_ | refine rn_exit rfl ?_ | refine pl_not rfl rfl ?_))
        refine pl_num (((i + 1 : Nat) : Int)) rfl rfl rfl rfl rfl (by simp only [ariP]; omega) ?_
        (repeat (first | refine pl_pure hT rfl rfl rfl ?_ | refine pl_nil ?_ | refine rn_seq ?_ | refine rn_plain ?_ | refine rn_block ?_ | refine rn_inBlock ?_ | refine rn_skip ?_ | refine rn_true rfl ?_ | refine rn_false rfl ?_ | refine rn_exit rfl ?_ | refine pl_not rfl rfl ?_))
        refine rn_sub ?_ (ih2 (l.length - (i + 1)) [(1, .int .i64 (most : Nat)), (2, .pointer (some ⟨b, 0, none⟩)), (5, .int .i64 ((nn + min (szE l[i]) (most - nn + 1) : Nat) : Int)), (6, .int .i64 ((i + 1 : Nat) : Int))] w3 (by omega)
          ⟨i + 1, _, by omega, rfl, rfl, by omega, hk3.blk hb2 (by simp), hk2.tr hk3⟩)
        exact ⟨rfl, rfl, rfl, rfl, trivial⟩
      · refine pl_no rfl rfl rfl rfl rfl rfl (by first | (simp only [cmpP]; omega) | (simp [cmpP]; done) | (simp [cmpP]; omega)) ?_
        (repeat (first | refine pl_pure hT rfl rfl rfl ?_ | refine pl_nil ?_ | refine rn_seq ?_ | refine rn_plain ?_ | refine rn_block ?_ | refine rn_inBlock ?_ | refine rn_skip ?_ | refine rn_true rfl ?_ | refine rn_false rfl ?_ | refine rn_exit rfl ?_ | refine pl_not rfl rfl ?_))
        refine rn_ret Try.func25 (.inl ⟨_, rfl, rfl⟩) ⟨?_, hk2⟩
        congr 1
        omega
    · refine pl_no rfl rfl rfl rfl rfl rfl (by first | (simp only [cmpP]; omega) | (simp [cmpP]; done) | (simp [cmpP]; omega)) ?_
      (repeat (first | refine pl_pure hT rfl rfl rfl ?_ | refine pl_nil ?_ | refine rn_seq ?_ | refine rn_plain ?_ | refine rn_block ?_ | refine rn_inBlock ?_ | refine rn_skip ?_ | refine rn_true rfl ?_ | refine rn_false rfl ?_ | refine rn_exit rfl ?_ | refine pl_not rfl rfl ?_))
      refine rn_ret Try.func25 (.inl ⟨_, rfl, rfl⟩) ⟨?_, hk2⟩
      have : l.take i = l := List.take_of_length_le (by omega)
      rw [this] at hn
      congr 1
      omega

/-- As many as they are, as far as so many. -/
def Cnt (s most x : Nat) : Prop := (s ≤ most → x = s) ∧ (most < s → most < x) ∧ x ≤ 2 * most + 3

theorem stmtParts_ret : ∀ (k : Nat) (l : List ST), szSs l < k → ∀ {F : Nat → Prop} {w : World} {x : Value} (most : Nat), StmtsV F w x l → In F w → most ≤ 900 →
    Ret Try.prog 13 [x, .int .i64 (most : Nat)] w fun v w' => ∃ c : Nat, v = .int .i64 (c : Nat) ∧ Cnt (szSs l) most c ∧ Keep [] w w' := by
  intro k
  induction k with
  | zero => intro l ht; omega
  | succ k ih =>
    intro l ht F w x most h hF hm
    obtain ⟨a, cap, rfl⟩ := h.form
    refine ret_of 69 Try.func13 rfl rfl (by simp) ?_
    (repeat (first | refine pl_pure hT rfl rfl rfl ?_ | refine pl_nil ?_ | refine rn_seq ?_ | refine rn_plain ?_ | refine rn_block ?_ | refine rn_inBlock ?_ | refine rn_skip ?_ | refine rn_true rfl ?_ | refine rn_false rfl ?_ | refine rn_exit rfl ?_ | refine pl_not rfl rfl ?_))
    refine rn_ind (fun m σ w' => ∃ i nn : Nat, i ≤ l.length ∧ m = l.length - i ∧ σ = [(0, .slice a l.length cap), (1, .int .i64 (most : Nat)), (5, .int .i64 (nn : Nat)), (6, .int .i64 (i : Nat))] ∧ Cnt (szSs (l.take i)) most nn ∧ Keep [] w w')
      l.length _ ?_ ⟨0, 0, by omega, by omega, rfl, by simp [szSs, Cnt], Keep.refl _ _⟩ ?_
    · exact ⟨rfl, rfl, rfl, rfl, trivial⟩
    rintro m σ w2 ih2 ⟨i, nn, hi, rfl, rfl, ⟨hn1, hn2, hn3⟩, hk2⟩
    (repeat (first | refine pl_pure hT rfl rfl rfl ?_ | refine pl_nil ?_ | refine rn_seq ?_ | refine rn_plain ?_ | refine rn_block ?_ | refine rn_inBlock ?_ | refine rn_skip ?_ | refine rn_true rfl ?_ | refine rn_false rfl ?_ | refine rn_exit rfl ?_ | refine pl_not rfl rfl ?_))
    have hle := szSs_take l i
    have hge := szSs_ge hi
    by_cases hlt : i < l.length
    · refine pl_yes rfl rfl rfl rfl rfl (by first | (simp only [cmpP]; omega) | (simp [cmpP]; done) | (simp [cmpP]; omega)) ?_
      (repeat (first | refine pl_pure hT rfl rfl rfl ?_ | refine pl_nil ?_ | refine rn_seq ?_ | refine rn_plain ?_ | refine rn_block ?_ | refine rn_inBlock ?_ | refine rn_skip ?_ | refine rn_true rfl ?_ | refine rn_false rfl ?_ | refine rn_exit rfl ?_ | refine pl_not rfl rfl ?_))
      by_cases hnm : nn ≤ most
      · refine pl_yes rfl rfl rfl rfl rfl (by first | (simp only [cmpP]; omega) | (simp [cmpP]; done) | (simp [cmpP]; omega)) ?_
        (repeat (first | refine pl_pure hT rfl rfl rfl ?_ | refine pl_nil ?_ | refine rn_seq ?_ | refine rn_plain ?_ | refine rn_block ?_ | refine rn_inBlock ?_ | refine rn_skip ?_ | refine rn_true rfl ?_ | refine rn_false rfl ?_ | refine rn_exit rfl ?_ | refine pl_not rfl rfl ?_))
        have hget : l[i]? = some l[i] := List.getElem?_eq_getElem hlt
        have hsz := szSs_at hget
        have hsu := szSs_succ hget
        obtain ⟨op, v, e, f, lb, lo, hs⟩ : ∃ op v e f lb lo, l[i] = ST.mk op v e f lb lo := by cases l[i]; exact ⟨_, _, _, _, _, _, rfl⟩
        rw [hs] at hget hsz hsu
        simp only [szS] at hsz hsu
        obtain ⟨bb, q, cap', ce, cf, bv, ov, hv, hst⟩ := (h.keep hk2 hF.stays).stmtAt hget
        cases hv
        have hF2 := hF.keep hk2
        refine rn_draw (fun w' => Keep [] w2 w') [] hMix ?_
        have hS : Keep [] w2 w2.drew := (Keep.refl _ _).drew
        generalize w2.drew = w3 at *
        refine dr_pure 0 hT rfl (by decide +kernel) rfl rfl rfl ?_
        refine dr_pure 1 hT rfl (by decide +kernel) rfl rfl rfl ?_
        refine dr_pure 2 hT rfl (by decide +kernel) rfl rfl rfl ?_
        refine dr_any 3 _ rfl (by decide +kernel) rfl rfl (fun w => val_index i hT rfl rfl rfl rfl rfl hlt w) ?_
        refine dr_pure 4 hT rfl (by decide +kernel) rfl rfl rfl ?_
        refine dr_val 5 (.agg ce.toArray) rfl (by decide +kernel) rfl rfl (fun w' hS => val_load ce hT rfl rfl (by rw [hst.he.length]; rfl) (hst.keep hS hF2.stays).re) hS ?_
        refine dr_pure 6 hT rfl (by decide +kernel) rfl rfl rfl ?_
        refine dr_pure 7 hT rfl (by decide +kernel) rfl rfl rfl ?_
        refine dr_num 8 (((most - nn : Nat) : Int)) rfl (by decide +kernel) rfl rfl rfl rfl rfl (by simp only [ariP]; omega) ?_
        refine dr_pure 11 hT rfl (by decide +kernel) rfl rfl rfl ?_
        refine dr_pure 12 hT rfl (by decide +kernel) rfl rfl rfl ?_
        refine dr_any 13 _ rfl (by decide +kernel) rfl rfl (fun w => val_index i hT rfl rfl rfl rfl rfl hlt w) ?_
        refine dr_pure 14 hT rfl (by decide +kernel) rfl rfl rfl ?_
        refine dr_val 15 (.agg cf.toArray) rfl (by decide +kernel) rfl rfl (fun w' hS => val_load cf hT rfl rfl (by rw [hst.hf.length]; rfl) (hst.keep hS hF2.stays).rf) hS ?_
        refine dr_pure 16 hT rfl (by decide +kernel) rfl rfl rfl ?_
        refine dr_pure 17 hT rfl (by decide +kernel) rfl rfl rfl ?_
        refine dr_num 18 (((most - nn : Nat) : Int)) rfl (by decide +kernel) rfl rfl rfl rfl rfl (by simp only [ariP]; omega) ?_
        refine dr_op 9 rfl (by decide +kernel) rfl rfl (opTo_call rfl rfl rfl rfl (by decide +kernel) ((exprParts_ret _ e (Nat.le_refl _) (most - nn) (hst.keep hS hF2.stays).he (hF2.keep hS) (by omega)).mono ?_))
        rintro v4 w4 ⟨rfl, hk4⟩
        replace hS := hS.tr hk4
        refine ⟨fun _ => hS, ?_⟩
        refine dr_num 10 (((1 + min (szE e) (most - nn + 1) : Nat) : Int)) rfl (by decide +kernel) rfl rfl rfl rfl rfl (by simp only [ariP]; omega) ?_
        refine dr_op 19 rfl (by decide +kernel) rfl rfl (opTo_call rfl rfl rfl rfl (by decide +kernel) ((exprParts_ret _ f (Nat.le_refl _) (most - nn) (hst.keep hS hF2.stays).hf (hF2.keep hS) (by omega)).mono ?_))
        rintro v5 w5 ⟨rfl, hk5⟩
        replace hS := hS.tr hk5
        refine ⟨fun _ => hS, ?_⟩
        refine dr_num 20 (((1 + min (szE e) (most - nn + 1) + min (szE f) (most - nn + 1) : Nat) : Int)) rfl (by decide +kernel) rfl rfl rfl rfl rfl (by simp only [ariP]; omega) ?_
        refine dr_num 21 (((nn + (1 + min (szE e) (most - nn + 1) + min (szE f) (most - nn + 1)) : Nat) : Int)) rfl (by decide +kernel) rfl rfl rfl rfl rfl (by simp only [ariP]; omega) ?_
        refine dr_pure 22 hT rfl (by decide +kernel) rfl rfl rfl ?_
        refine dr_done (by decide +kernel) ?_
        replace hst := hst.keep hS hF2.stays
        replace hF2 := hF2.keep hS
        replace hk2 := hk2.tr hS
        have hc : Cnt (szSs (l.take i) + (1 + szE e + szE f)) most (nn + (1 + min (szE e) (most - nn + 1) + min (szE f) (most - nn + 1))) := by
          refine ⟨fun h => ?_, fun h => ?_, ?_⟩ <;> omega
        generalize nn + (1 + min (szE e) (most - nn + 1) + min (szE f) (most - nn + 1)) = n1 at *
        obtain ⟨hc1, hc2, hc3⟩ := hc
        (repeat (first | refine pl_pure hT rfl rfl rfl ?_ | refine pl_nil ?_ | refine rn_seq ?_ | refine rn_plain ?_ | refine rn_block ?_ | refine rn_inBlock ?_ | refine rn_skip ?_ | refine rn_true rfl ?_ | refine rn_false rfl ?_ | refine rn_exit rfl ?_ | refine pl_not rfl rfl ?_))
        by_cases h1 : n1 ≤ most
        · refine pl_yes rfl rfl rfl rfl rfl (by first | (simp only [cmpP]; omega) | (simp [cmpP]; done) | (simp [cmpP]; omega)) ?_
          (repeat (first | refine pl_pure hT rfl rfl rfl ?_ | refine pl_nil ?_ | refine rn_seq ?_ | refine rn_plain ?_ | refine rn_block ?_ | refine rn_inBlock ?_ | refine rn_skip ?_ | refine rn_true rfl ?_ | refine rn_false rfl ?_ | refine rn_exit rfl ?_ | refine pl_not rfl rfl ?_))
          refine pl_val _ rfl rfl (val_index i hT rfl rfl rfl rfl rfl hlt w5) ?_
          (repeat (first | refine pl_pure hT rfl rfl rfl ?_ | refine pl_nil ?_ | refine rn_seq ?_ | refine rn_plain ?_ | refine rn_block ?_ | refine rn_inBlock ?_ | refine rn_skip ?_ | refine rn_true rfl ?_ | refine rn_false rfl ?_ | refine rn_exit rfl ?_ | refine pl_not rfl rfl ?_))
          refine pl_val _ rfl rfl (val_load1 hT rfl rfl rfl (hst.cb)) ?_
          (repeat (first | refine pl_pure hT rfl rfl rfl ?_ | refine pl_nil ?_ | refine rn_seq ?_ | refine rn_plain ?_ | refine rn_block ?_ | refine rn_inBlock ?_ | refine rn_skip ?_ | refine rn_true rfl ?_ | refine rn_false rfl ?_ | refine rn_exit rfl ?_ | refine pl_not rfl rfl ?_))
          refine pl_num (((most - n1 : Nat) : Int)) rfl rfl rfl rfl rfl (by simp only [ariP]; omega) ?_
          refine pl_op rfl rfl (opTo_call rfl rfl rfl rfl (by decide +kernel) ((ih lb (by omega) (most - n1) hst.hb hF2 (by omega)).mono ?_))
          rintro v6 w6 ⟨c6, rfl, ⟨hd1, hd2, hd3⟩, hk6⟩
          refine pl_num (((n1 + c6 : Nat) : Int)) rfl rfl rfl rfl rfl (by simp only [ariP]; omega) ?_
          (repeat (first | refine pl_pure hT rfl rfl rfl ?_ | refine pl_nil ?_ | refine rn_seq ?_ | refine rn_plain ?_ | refine rn_block ?_ | refine rn_inBlock ?_ | refine rn_skip ?_ | refine rn_true rfl ?_ | refine rn_false rfl ?_ | refine rn_exit rfl ?_ | refine pl_not rfl rfl ?_))
          replace hst := hst.keep hk6 hF2.stays
          replace hF2 := hF2.keep hk6
          replace hk2 := hk2.tr hk6
          by_cases h2 : n1 + c6 ≤ most
          · refine pl_yes rfl rfl rfl rfl rfl (by first | (simp only [cmpP]; omega) | (simp [cmpP]; done) | (simp [cmpP]; omega)) ?_
            (repeat (first | refine pl_pure hT rfl rfl rfl ?_ | refine pl_nil ?_ | refine rn_seq ?_ | refine rn_plain ?_ | refine rn_block ?_ | refine rn_inBlock ?_ | refine rn_skip ?_ | refine rn_true rfl ?_ | refine rn_false rfl ?_ | refine rn_exit rfl ?_ | refine pl_not rfl rfl ?_))
            refine pl_val _ rfl rfl (val_index i hT rfl rfl rfl rfl rfl hlt w6) ?_
            (repeat (first | refine pl_pure hT rfl rfl rfl ?_ | refine pl_nil ?_ | refine rn_seq ?_ | refine rn_plain ?_ | refine rn_block ?_ | refine rn_inBlock ?_ | refine rn_skip ?_ | refine rn_true rfl ?_ | refine rn_false rfl ?_ | refine rn_exit rfl ?_ | refine pl_not rfl rfl ?_))
            refine pl_val _ rfl rfl (val_load1 hT rfl rfl rfl (hst.co)) ?_
            (repeat (first | refine pl_pure hT rfl rfl rfl ?_ | refine pl_nil ?_ | refine rn_seq ?_ | refine rn_plain ?_ | refine rn_block ?_ | refine rn_inBlock ?_ | refine rn_skip ?_ | refine rn_true rfl ?_ | refine rn_false rfl ?_ | refine rn_exit rfl ?_ | refine pl_not rfl rfl ?_))
            refine pl_num (((most - (n1 + c6) : Nat) : Int)) rfl rfl rfl rfl rfl (by simp only [ariP]; omega) ?_
            refine pl_op rfl rfl (opTo_call rfl rfl rfl rfl (by decide +kernel) ((ih lo (by omega) (most - (n1 + c6)) hst.ho hF2 (by omega)).mono ?_))
            rintro v7 w7 ⟨c7, rfl, ⟨he1, he2, he3⟩, hk7⟩
            refine pl_num (((n1 + c6 + c7 : Nat) : Int)) rfl rfl rfl rfl rfl (by simp only [ariP]; omega) ?_
            (repeat (first | refine pl_pure hT rfl rfl rfl ?_ | refine pl_nil ?_ | refine rn_seq ?_ | refine rn_plain ?_ | refine rn_block ?_ | refine rn_inBlock ?_ | refine rn_skip ?_ | refine rn_true rfl ?_ | refine rn_false rfl ?_ | refine rn_exit rfl ?_ | refine pl_not rfl rfl ?_))
            refine pl_num (((i + 1 : Nat) : Int)) rfl rfl rfl rfl rfl (by simp only [ariP]; omega) ?_
            (repeat (first | refine pl_pure hT rfl rfl rfl ?_ | refine pl_nil ?_ | refine rn_seq ?_ | refine rn_plain ?_ | refine rn_block ?_ | refine rn_inBlock ?_ | refine rn_skip ?_ | refine rn_true rfl ?_ | refine rn_false rfl ?_ | refine rn_exit rfl ?_ | refine pl_not rfl rfl ?_))
            refine rn_sub ?_ (ih2 (l.length - (i + 1)) [(0, .slice (some ⟨bb, q, none⟩) l.length cap), (1, .int .i64 (most : Nat)), (5, .int .i64 ((n1 + c6 + c7 : Nat) : Int)), (6, .int .i64 ((i + 1 : Nat) : Int))] w7 (by omega)
              ⟨i + 1, _, by omega, rfl, rfl, ?_, hk2.tr hk7⟩)
            · exact ⟨rfl, rfl, rfl, rfl, trivial⟩
            · refine ⟨fun h => ?_, fun h => ?_, ?_⟩ <;> omega
          · refine pl_no rfl rfl rfl rfl rfl rfl (by first | (simp only [cmpP]; omega) | (simp [cmpP]; done) | (simp [cmpP]; omega)) ?_
            (repeat (first | refine pl_pure hT rfl rfl rfl ?_ | refine pl_nil ?_ | refine rn_seq ?_ | refine rn_plain ?_ | refine rn_block ?_ | refine rn_inBlock ?_ | refine rn_skip ?_ | refine rn_true rfl ?_ | refine rn_false rfl ?_ | refine rn_exit rfl ?_ | refine pl_not rfl rfl ?_))
            refine pl_num (((i + 1 : Nat) : Int)) rfl rfl rfl rfl rfl (by simp only [ariP]; omega) ?_
            (repeat (first | refine pl_pure hT rfl rfl rfl ?_ | refine pl_nil ?_ | refine rn_seq ?_ | refine rn_plain ?_ | refine rn_block ?_ | refine rn_inBlock ?_ | refine rn_skip ?_ | refine rn_true rfl ?_ | refine rn_false rfl ?_ | refine rn_exit rfl ?_ | refine pl_not rfl rfl ?_))
            refine rn_sub ?_ (ih2 (l.length - (i + 1)) [(0, .slice (some ⟨bb, q, none⟩) l.length cap), (1, .int .i64 (most : Nat)), (5, .int .i64 ((n1 + c6 : Nat) : Int)), (6, .int .i64 ((i + 1 : Nat) : Int))] w6 (by omega)
              ⟨i + 1, _, by omega, rfl, rfl, ?_, hk2⟩)
            · exact ⟨rfl, rfl, rfl, rfl, trivial⟩
            · refine ⟨fun h => ?_, fun h => ?_, ?_⟩ <;> omega
        · refine pl_no rfl rfl rfl rfl rfl rfl (by first | (simp only [cmpP]; omega) | (simp [cmpP]; done) | (simp [cmpP]; omega)) ?_
          (repeat (first | refine pl_pure hT rfl rfl rfl ?_ | refine pl_nil ?_ | refine rn_seq ?_ | refine rn_plain ?_ | refine rn_block ?_ | refine rn_inBlock ?_ | refine rn_skip ?_ | refine rn_true rfl ?_ | refine rn_false rfl ?_ | refine rn_exit rfl ?_ | refine pl_not rfl rfl ?_))
          refine pl_no rfl rfl rfl rfl rfl rfl (by first | (simp only [cmpP]; omega) | (simp [cmpP]; done) | (simp [cmpP]; omega)) ?_
          (repeat (first | refine pl_pure hT rfl rfl rfl ?_ | refine pl_nil ?_ | refine rn_seq ?_ | refine rn_plain ?_ | refine rn_block ?_ | refine rn_inBlock ?_ | refine rn_skip ?_ | refine rn_true rfl ?_ | refine rn_false rfl ?_ | refine rn_exit rfl ?_ | refine pl_not rfl rfl ?_))
          refine pl_num (((i + 1 : Nat) : Int)) rfl rfl rfl rfl rfl (by simp only [ariP]; omega) ?_
          (repeat (first | refine pl_pure hT rfl rfl rfl ?_ | refine pl_nil ?_ | refine rn_seq ?_ | refine rn_plain ?_ | refine rn_block ?_ | refine rn_inBlock ?_ | refine rn_skip ?_ | refine rn_true rfl ?_ | refine rn_false rfl ?_ | refine rn_exit rfl ?_ | refine pl_not rfl rfl ?_))
          refine rn_sub ?_ (ih2 (l.length - (i + 1)) [(0, .slice (some ⟨bb, q, none⟩) l.length cap), (1, .int .i64 (most : Nat)), (5, .int .i64 ((n1 : Nat) : Int)), (6, .int .i64 ((i + 1 : Nat) : Int))] w5 (by omega)
              ⟨i + 1, _, by omega, rfl, rfl, ?_, hk2⟩)
          · exact ⟨rfl, rfl, rfl, rfl, trivial⟩
          · refine ⟨fun h => ?_, fun h => ?_, ?_⟩ <;> omega
      · refine pl_no rfl rfl rfl rfl rfl rfl (by first | (simp only [cmpP]; omega) | (simp [cmpP]; done) | (simp [cmpP]; omega)) ?_
        (repeat (first | refine pl_pure hT rfl rfl rfl ?_ | refine pl_nil ?_ | refine rn_seq ?_ | refine rn_plain ?_ | refine rn_block ?_ | refine rn_inBlock ?_ | refine rn_skip ?_ | refine rn_true rfl ?_ | refine rn_false rfl ?_ | refine rn_exit rfl ?_ | refine pl_not rfl rfl ?_))
        refine rn_ret Try.func13 (.inl ⟨_, rfl, rfl⟩) ⟨nn, rfl, ?_, hk2⟩
        refine ⟨fun h => ?_, fun h => ?_, ?_⟩ <;> omega
    · refine pl_no rfl rfl rfl rfl rfl rfl (by first | (simp only [cmpP]; omega) | (simp [cmpP]; done) | (simp [cmpP]; omega)) ?_
      (repeat (first | refine pl_pure hT rfl rfl rfl ?_ | refine pl_nil ?_ | refine rn_seq ?_ | refine rn_plain ?_ | refine rn_block ?_ | refine rn_inBlock ?_ | refine rn_skip ?_ | refine rn_true rfl ?_ | refine rn_false rfl ?_ | refine rn_exit rfl ?_ | refine pl_not rfl rfl ?_))
      refine rn_ret Try.func13 (.inl ⟨_, rfl, rfl⟩) ⟨nn, rfl, ?_, hk2⟩
      have : l.take i = l := List.take_of_length_le (by omega)
      rw [this] at hn1 hn2
      exact ⟨hn1, hn2, hn3⟩
end E
end Go.Proofs.Ytpbdjpoohpocfac
