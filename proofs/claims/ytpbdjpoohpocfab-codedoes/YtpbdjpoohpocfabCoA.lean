/- Contracts of the document's functions that go through a program's trees: how many parts, and whether it is great. -/
import Derived.Test.YtpbdjpoohpocfabProg
import Derived.Test.YtpbdjpoohpocfabTreeB
namespace Go.Proofs.Ytpbdjpoohpocfab
set_option maxRecDepth 20000
set_option maxHeartbeats 4000000
namespace E
open Go.Proofs

def tbl : Tbl := { fld := [(27, [(0, 0), (1, 1), (2, 2), (3, 3)]), (28, [(0, 0), (1, 1), (2, 2), (3, 3)]), (42, [(0, 0), (1, 1)]), (43, [(0, 0), (1, 1)]), (47, [(0, 0), (1, 1), (2, 113), (3, 114)]), (48, [(0, 0), (1, 1), (2, 113), (3, 114)]), (53, [(0, 0), (1, 1), (2, 2), (3, 3), (4, 4)]), (54, [(0, 0), (1, 1), (2, 2), (3, 3), (4, 4)]), (58, [(0, 0), (1, 1)]), (66, [(0, 0), (1, 1), (2, 113)]), (67, [(0, 0), (1, 1), (2, 113)]), (72, [(0, 0), (1, 1)]), (73, [(0, 0), (1, 1)]), (83, [(0, 0), (1, 1)]), (84, [(0, 0), (1, 1)]), (90, [(0, 0), (1, 272)]), (91, [(0, 0), (1, 272)]), (92, [(0, 0)]), (93, [(0, 0)]), (99, [(0, 0), (1, 1), (2, 3)]), (100, [(0, 0), (1, 1), (2, 3)]), (103, [(0, 0), (1, 1), (2, 18), (3, 52)]), (104, [(0, 0), (1, 1), (2, 18), (3, 52)]), (116, [(0, 0), (1, 1), (2, 2), (3, 3)]), (117, [(0, 0), (1, 1), (2, 2), (3, 3)]), (118, [(0, 0), (1, 1), (2, 2), (3, 6), (4, 10), (5, 11)]), (119, [(0, 0), (1, 1), (2, 2), (3, 6), (4, 10), (5, 11)]), (125, [(0, 0), (1, 1), (2, 2), (3, 3), (4, 4)]), (126, [(0, 0), (1, 1), (2, 2), (3, 3), (4, 4)]), (129, [(0, 0), (1, 2), (2, 3)]), (130, [(0, 0), (1, 2), (2, 3)]), (134, [(0, 0), (1, 1)]), (135, [(0, 0), (1, 1)]), (138, [(0, 0), (1, 1)]), (139, [(0, 0), (1, 1)]), (153, [(0, 0), (1, 1)]), (154, [(0, 0), (1, 1)]), (169, [(0, 0), (1, 1), (2, 2)]), (170, [(0, 0), (1, 1), (2, 2)]), (171, []), (173, [(0, 0), (1, 1)]), (174, [(0, 0), (1, 1)]), (177, [(0, 0), (1, 1), (2, 2)]), (178, [(0, 0), (1, 1), (2, 2)]), (179, [(0, 0), (1, 1)]), (180, [(0, 0), (1, 1)]), (199, [(0, 0), (1, 1), (2, 2), (3, 3), (4, 4), (5, 5), (6, 6), (7, 7), (8, 8), (9, 9), (10, 10)])], sl := [(22, 4), (23, 9), (45, 5), (51, 1), (56, 9), (70, 2), (71, 12), (89, 9), (102, 1), (107, 8), (115, 4), (133, 2), (137, 2)], ar := [(36, (8, 1)), (37, (8, 1)), (38, (14, 8)), (52, (14, 1)), (65, (112, 1)), (88, (34, 8)), (97, (2, 1)), (98, (14, 1)), (101, (34, 1)), (188, (0, 1))], one := [(1, ()), (2, ()), (3, ()), (4, ()), (5, ()), (6, ()), (9, ()), (10, ()), (11, ()), (12, ()), (15, ()), (16, ()), (17, ()), (21, ()), (22, ()), (23, ()), (24, ()), (25, ()), (26, ()), (29, ()), (30, ()), (31, ()), (32, ()), (33, ()), (35, ()), (39, ()), (40, ()), (41, ()), (44, ()), (45, ()), (46, ()), (49, ()), (50, ()), (51, ()), (55, ()), (56, ()), (57, ()), (59, ()), (60, ()), (61, ()), (62, ()), (63, ()), (64, ()), (68, ()), (69, ()), (70, ()), (71, ()), (74, ()), (75, ()), (77, ()), (78, ()), (79, ()), (80, ()), (81, ()), (82, ()), (85, ()), (86, ()), (87, ()), (89, ()), (94, ()), (95, ()), (96, ()), (102, ()), (105, ()), (106, ()), (107, ()), (108, ()), (109, ()), (110, ()), (111, ()), (112, ()), (113, ()), (114, ()), (115, ()), (120, ()), (121, ()), (122, ()), (123, ()), (124, ()), (127, ()), (128, ()), (131, ()), (132, ()), (133, ()), (136, ()), (137, ()), (140, ()), (141, ()), (142, ()), (143, ()), (144, ()), (145, ()), (146, ()), (147, ()), (148, ()), (149, ()), (150, ()), (151, ()), (152, ()), (155, ()), (156, ()), (157, ()), (158, ()), (159, ()), (160, ()), (161, ()), (162, ()), (163, ()), (164, ()), (165, ()), (166, ()), (167, ()), (168, ()), (175, ()), (176, ()), (181, ()), (182, ()), (183, ()), (184, ()), (185, ()), (191, ()), (192, ()), (193, ()), (194, ()), (195, ()), (196, ()), (197, ()), (198, ())], ag := [(27, 4), (28, 4), (36, 8), (37, 8), (38, 112), (42, 9), (43, 9), (47, 226), (48, 226), (52, 14), (53, 5), (54, 5), (58, 9), (65, 112), (66, 127), (67, 127), (72, 2), (73, 2), (83, 2), (84, 2), (88, 272), (90, 273), (91, 273), (92, 1), (93, 1), (97, 2), (98, 14), (99, 17), (100, 17), (101, 34), (103, 53), (104, 53), (116, 4), (117, 4), (118, 12), (119, 12), (125, 5), (126, 5), (129, 4), (130, 4), (134, 2), (135, 2), (138, 2), (139, 2), (153, 9), (154, 9), (169, 3), (170, 3), (171, 0), (173, 2), (174, 2), (177, 3), (178, 3), (179, 2), (180, 2), (188, 0), (199, 11)] }
theorem hT : tbl.check Try.prog = true := by decide +kernel
theorem hMix : Try.prog.follows .mixedOrders = true := by decide +kernel

theorem exprParts_ret : ∀ (k : Nat) (t : ET), szE t ≤ k → ∀ {F : Nat → Prop} {w : World} {cs : List Value} (most : Nat), ExprV F w cs t → In F w → most ≤ 900 →
    Ret Try.prog 88 [.agg cs.toArray, .int .i64 (most : Nat)] w fun v w' => v = .int .i64 ((min (szE t) (most + 1) : Nat)) ∧ Keep [] w w' := by
  intro k
  induction k with
  | zero => intro t ht; have := szE_pos t; omega
  | succ k ih =>
    intro t ht F w cs most h hF hm
    obtain ⟨op, v, n, l⟩ := t
    obtain ⟨lv, rfl, hl⟩ := h.inv
    obtain ⟨a, cap, rfl⟩ := hl.form
    simp only [szE] at ht ⊢
    refine ret_of 31 Try.func88 rfl rfl (by simp) ?_
    (repeat (first | refine pl_pure hT rfl rfl rfl ?_ | refine pl_nil ?_ | refine rn_seq ?_ | refine rn_plain ?_ | refine rn_block ?_ | refine rn_inBlock ?_ | refine rn_skip ?_ | refine rn_true rfl ?_ | refine rn_false rfl ?_ | refine rn_exit rfl ?_ | refine pl_not rfl rfl ?_))
    refine pl_op rfl rfl (opTo_box [.int .i64 op, .int .i64 v, .int .i64 n, .slice a l.length cap] rfl rfl rfl ?_)
    have hk0 : Keep [] w (w.alloc (.cells [.int .i64 op, .int .i64 v, .int .i64 n, .slice a l.length cap].toArray 117)) := (Keep.refl _ _).alloc _
    have hb0 : Blk (w.alloc (.cells [.int .i64 op, .int .i64 v, .int .i64 n, .slice a l.length cap].toArray 117)) w.heap.size [.int .i64 op, .int .i64 v, .int .i64 n, .slice a l.length cap] 117 := Blk.new _ _ _
    generalize (w.alloc (.cells [.int .i64 op, .int .i64 v, .int .i64 n, .slice a l.length cap].toArray 117)) = w1 at *
    generalize w.heap.size = b at *
    (repeat (first | refine pl_pure hT rfl rfl rfl ?_ | refine pl_nil ?_ | refine rn_seq ?_ | refine rn_plain ?_ | refine rn_block ?_ | refine rn_inBlock ?_ | refine rn_skip ?_ | refine rn_true rfl ?_ | refine rn_false rfl ?_ | refine rn_exit rfl ?_ | refine pl_not rfl rfl ?_))
    refine rn_ind (fun m σ w' => ∃ i nn : Nat, i ≤ l.length ∧ m = l.length - i ∧ σ = [(1, .int .i64 (most : Nat)), (2, .pointer (some ⟨b, 0, none⟩)), (5, .int .i64 (nn : Nat)), (6, .int .i64 (i : Nat))] ∧ nn = min (1 + szEs (l.take i)) (most + 1) ∧
      Blk w' b [.int .i64 op, .int .i64 v, .int .i64 n, .slice a l.length cap] 117 ∧ Keep [] w w') l.length _ ?_ ⟨0, 1, by omega, by omega, rfl, by simp [szEs], hb0, hk0⟩ ?_
    · exact ⟨rfl, rfl, rfl, rfl, trivial⟩
    rintro m σ w2 ih2 ⟨i, nn, hi, rfl, rfl, hn, hb2, hk2⟩
    (repeat (first | refine pl_pure hT rfl rfl rfl ?_ | refine pl_nil ?_ | refine rn_seq ?_ | refine rn_plain ?_ | refine rn_block ?_ | refine rn_inBlock ?_ | refine rn_skip ?_ | refine rn_true rfl ?_ | refine rn_false rfl ?_ | refine rn_exit rfl ?_ | refine pl_not rfl rfl ?_))
    refine pl_val _ rfl rfl (val_load1 hT rfl rfl rfl (hb2.cell rfl)) ?_
    (repeat (first | refine pl_pure hT rfl rfl rfl ?_ | refine pl_nil ?_ | refine rn_seq ?_ | refine rn_plain ?_ | refine rn_block ?_ | refine rn_inBlock ?_ | refine rn_skip ?_ | refine rn_true rfl ?_ | refine rn_false rfl ?_ | refine rn_exit rfl ?_ | refine pl_not rfl rfl ?_))
    have hle := szEs_take l i
    have hge := szEs_ge hi
    by_cases hlt : i < l.length
    · refine pl_yes rfl rfl rfl rfl rfl (by first | (simp only [cmpP]; omega) | (simp [cmpP]; done) | (simp [cmpP]; omega)) ?_
      (repeat (first | refine pl_pure hT rfl rfl rfl ?_ | refine pl_nil ?_ | refine rn_seq ?_ | refine rn_plain ?_ | refine rn_block ?_ | refine rn_inBlock ?_ | refine rn_skip ?_ | refine rn_true rfl ?_ | refine rn_false rfl ?_ | refine rn_exit rfl ?_ | refine pl_not rfl rfl ?_))
      by_cases hnm : nn ≤ most
      · refine pl_yes rfl rfl rfl rfl rfl (by first | (simp only [cmpP]; omega) | (simp [cmpP]; done) | (simp [cmpP]; omega)) ?_
        (repeat (first | refine pl_pure hT rfl rfl rfl ?_ | refine pl_nil ?_ | refine rn_seq ?_ | refine rn_plain ?_ | refine rn_block ?_ | refine rn_inBlock ?_ | refine rn_skip ?_ | refine rn_true rfl ?_ | refine rn_false rfl ?_ | refine rn_exit rfl ?_ | refine pl_not rfl rfl ?_))
        refine pl_val _ rfl rfl (val_load1 hT rfl rfl rfl (hb2.cell rfl)) ?_
        (repeat (first | refine pl_pure hT rfl rfl rfl ?_ | refine pl_nil ?_ | refine rn_seq ?_ | refine rn_plain ?_ | refine rn_block ?_ | refine rn_inBlock ?_ | refine rn_skip ?_ | refine rn_true rfl ?_ | refine rn_false rfl ?_ | refine rn_exit rfl ?_ | refine pl_not rfl rfl ?_))
        have hget : l[i]? = some l[i] := List.getElem?_eq_getElem hlt
        obtain ⟨bb, q, cap', ci, hv, _, hra, hci⟩ := (hl.keep hk2 hF.stays).at hget
        cases hv
        refine pl_val _ rfl rfl (val_index i hT rfl rfl rfl rfl rfl hlt w2) ?_
        refine pl_val (.agg ci.toArray) rfl rfl (val_load ci hT rfl rfl (by rw [hci.length]; rfl) hra) ?_
        (repeat (first | refine pl_pure hT rfl rfl rfl ?_ | refine pl_nil ?_ | refine rn_seq ?_ | refine rn_plain ?_ | refine rn_block ?_ | refine rn_inBlock ?_ | refine rn_skip ?_ | refine rn_true rfl ?_ | refine rn_false rfl ?_ | refine rn_exit rfl ?_ | refine pl_not rfl rfl ?_))
        refine pl_num (((most - nn : Nat) : Int)) rfl rfl rfl rfl rfl (by simp only [ariP]; omega) ?_
        have hsz := szEs_at hget
        have hsu := szEs_succ hget
        refine pl_op rfl rfl (opTo_call rfl rfl rfl rfl (by decide +kernel) ((ih l[i] (by omega) (most - nn) hci (hF.keep hk2) (by omega)).mono ?_))
        rintro v3 w3 ⟨rfl, hk3⟩
        refine pl_num (((nn + min (szE l[i]) (most - nn + 1) : Nat) : Int)) rfl rfl rfl rfl rfl (by simp only [ariP]; omega) ?_
        (repeat (first | refine pl_pure hT rfl rfl rfl ?_ | refine pl_nil ?_ | refine rn_seq ?_ | refine rn_plain ?_ | refine rn_block ?_ | refine rn_inBlock ?_ | refine rn_skip ?_ | refine rn_true rfl ?_ | refine rn_false rfl ?_ | refine rn_exit rfl ?_ | refine pl_not rfl rfl ?_))
        refine pl_num (((i + 1 : Nat) : Int)) rfl rfl rfl rfl rfl (by simp only [ariP]; omega) ?_
        (repeat (first | refine pl_pure hT rfl rfl rfl ?_ | refine pl_nil ?_ | refine rn_seq ?_ | refine rn_plain ?_ | refine rn_block ?_ | refine rn_inBlock ?_ | refine rn_skip ?_ | refine rn_true rfl ?_ | refine rn_false rfl ?_ | refine rn_exit rfl ?_ | refine pl_not rfl rfl ?_))
        refine rn_sub ?_ (ih2 (l.length - (i + 1)) [(1, .int .i64 (most : Nat)), (2, .pointer (some ⟨b, 0, none⟩)), (5, .int .i64 ((nn + min (szE l[i]) (most - nn + 1) : Nat) : Int)), (6, .int .i64 ((i + 1 : Nat) : Int))] w3 (by omega)
          ⟨i + 1, _, by omega, rfl, rfl, by omega, hk3.blk hb2 (by simp), hk2.tr hk3⟩)
        exact ⟨rfl, rfl, rfl, rfl, trivial⟩
      · refine pl_no rfl rfl rfl rfl rfl rfl (by first | (simp only [cmpP]; omega) | (simp [cmpP]; done) | (simp [cmpP]; omega)) ?_
        (repeat (first | refine pl_pure hT rfl rfl rfl ?_ | refine pl_nil ?_ | refine rn_seq ?_ | refine rn_plain ?_ | refine rn_block ?_ | refine rn_inBlock ?_ | refine rn_skip ?_ | refine rn_true rfl ?_ | refine rn_false rfl ?_ | refine rn_exit rfl ?_ | refine pl_not rfl rfl ?_))
        refine rn_ret Try.func88 (.inl ⟨_, rfl, rfl⟩) ⟨?_, hk2⟩
        congr 1
        omega
    · refine pl_no rfl rfl rfl rfl rfl rfl (by first | (simp only [cmpP]; omega) | (simp [cmpP]; done) | (simp [cmpP]; omega)) ?_
      (repeat (first | refine pl_pure hT rfl rfl rfl ?_ | refine pl_nil ?_ | refine rn_seq ?_ | refine rn_plain ?_ | refine rn_block ?_ | refine rn_inBlock ?_ | refine rn_skip ?_ | refine rn_true rfl ?_ | refine rn_false rfl ?_ | refine rn_exit rfl ?_ | refine pl_not rfl rfl ?_))
      refine rn_ret Try.func88 (.inl ⟨_, rfl, rfl⟩) ⟨?_, hk2⟩
      have : l.take i = l := List.take_of_length_le (by omega)
      rw [this] at hn
      congr 1
      omega

/-- As many as they are, as far as so many. -/
def Cnt (s most x : Nat) : Prop := (s ≤ most → x = s) ∧ (most < s → most < x) ∧ x ≤ 2 * most + 3

theorem stmtParts_ret : ∀ (k : Nat) (l : List ST), szSs l < k → ∀ {F : Nat → Prop} {w : World} {x : Value} (most : Nat), StmtsV F w x l → In F w → most ≤ 900 →
    Ret Try.prog 64 [x, .int .i64 (most : Nat)] w fun v w' => ∃ c : Nat, v = .int .i64 (c : Nat) ∧ Cnt (szSs l) most c ∧ Keep [] w w' := by
  intro k
  induction k with
  | zero => intro l ht; omega
  | succ k ih =>
    intro l ht F w x most h hF hm
    obtain ⟨a, cap, rfl⟩ := h.form
    refine ret_of 69 Try.func64 rfl rfl (by simp) ?_
    (repeat (first | refine pl_pure hT rfl rfl rfl ?_ | refine pl_nil ?_ | refine rn_seq ?_ | refine rn_plain ?_ | refine rn_block ?_ | refine rn_inBlock ?_ | refine rn_skip ?_ | refine rn_true rfl ?_ | refine rn_false rfl ?_ | refine rn_exit rfl ?_ | refine pl_not rfl rfl ?_))
    refine rn_ind (fun m σ w' => ∃ i nn : Nat, i ≤ l.length ∧ m = l.length - i ∧ σ = [(0, .slice a l.length cap), (1, .int .i64 (most : Nat)), (5, .int .i64 (nn : Nat)), (6, .int .i64 (i : Nat))] ∧ Cnt (szSs (l.take i)) most nn ∧ Keep [] w w')
      l.length _ ?_ ⟨0, 0, by omega, by omega, rfl, by simp [szSs, Cnt], Keep.refl _ _⟩ ?_
    · exact ⟨rfl, rfl, rfl, rfl, trivial⟩
    rintro m σ w2 ih2 ⟨i, nn, hi, rfl, rfl, ⟨hn1, hn2, hn3⟩, hk2⟩
    (repeat (first | refine pl_pure hT rfl rfl rfl ?_ | refine pl_nil ?_ | refine rn_seq ?_ | refine rn_plain ?_ | refine rn_block ?_ | refine rn_inBlock ?_ | refine rn_skip ?_ | refine rn_true rfl ?_ | refine rn_false rfl ?_ | refine rn_exit rfl ?_ | refine pl_not rfl rfl ?_))
    have hle := szSs_take l i
    have hge := szSs_ge hi
    by_cases hlt : i < l.length
    · refine pl_yes rfl rfl rfl rfl rfl (by first | (simp only [cmpP]; omega) | (simp [cmpP]; done) | (simp [cmpP]; omega)) ?_
      (repeat (first | refine pl_pure hT rfl rfl rfl ?_ | refine pl_nil ?_ | refine rn_seq ?_ | refine rn_plain ?_ | refine rn_block ?_ | refine rn_inBlock ?_ | refine rn_skip ?_ | refine rn_true rfl ?_ | refine rn_false rfl ?_ | refine rn_exit rfl ?_ | refine pl_not rfl rfl ?_))
      by_cases hnm : nn ≤ most
      · refine pl_yes rfl rfl rfl rfl rfl (by first | (simp only [cmpP]; omega) | (simp [cmpP]; done) | (simp [cmpP]; omega)) ?_
        (repeat (first | refine pl_pure hT rfl rfl rfl ?_ | refine pl_nil ?_ | refine rn_seq ?_ | refine rn_plain ?_ | refine rn_block ?_ | refine rn_inBlock ?_ | refine rn_skip ?_ | refine rn_true rfl ?_ | refine rn_false rfl ?_ | refine rn_exit rfl ?_ | refine pl_not rfl rfl ?_))
        have hget : l[i]? = some l[i] := List.getElem?_eq_getElem hlt
        have hsz := szSs_at hget
        have hsu := szSs_succ hget
        obtain ⟨op, v, e, f, lb, lo, hs⟩ : ∃ op v e f lb lo, l[i] = ST.mk op v e f lb lo := by cases l[i]; exact ⟨_, _, _, _, _, _, rfl⟩
        rw [hs] at hget hsz hsu
        simp only [szS] at hsz hsu
        obtain ⟨bb, q, cap', ce, cf, bv, ov, hv, hst⟩ := (h.keep hk2 hF.stays).stmtAt hget
        cases hv
        have hF2 := hF.keep hk2
        refine rn_draw (fun w' => Keep [] w2 w') [] hMix ?_
        have hS : Keep [] w2 w2.drew := (Keep.refl _ _).drew
        generalize w2.drew = w3 at *
        refine dr_pure 0 hT rfl (by decide +kernel) rfl rfl rfl ?_
        refine dr_pure 1 hT rfl (by decide +kernel) rfl rfl rfl ?_
        refine dr_pure 2 hT rfl (by decide +kernel) rfl rfl rfl ?_
        refine dr_any 3 _ rfl (by decide +kernel) rfl rfl (fun w => val_index i hT rfl rfl rfl rfl rfl hlt w) ?_
        refine dr_pure 4 hT rfl (by decide +kernel) rfl rfl rfl ?_
        refine dr_val 5 (.agg ce.toArray) rfl (by decide +kernel) rfl rfl (fun w' hS => val_load ce hT rfl rfl (by rw [hst.he.length]; rfl) (hst.keep hS hF2.stays).re) hS ?_
        refine dr_pure 6 hT rfl (by decide +kernel) rfl rfl rfl ?_
        refine dr_pure 7 hT rfl (by decide +kernel) rfl rfl rfl ?_
        refine dr_num 8 (((most - nn : Nat) : Int)) rfl (by decide +kernel) rfl rfl rfl rfl rfl (by simp only [ariP]; omega) ?_
        refine dr_pure 11 hT rfl (by decide +kernel) rfl rfl rfl ?_
        refine dr_pure 12 hT rfl (by decide +kernel) rfl rfl rfl ?_
        refine dr_any 13 _ rfl (by decide +kernel) rfl rfl (fun w => val_index i hT rfl rfl rfl rfl rfl hlt w) ?_
        refine dr_pure 14 hT rfl (by decide +kernel) rfl rfl rfl ?_
        refine dr_val 15 (.agg cf.toArray) rfl (by decide +kernel) rfl rfl (fun w' hS => val_load cf hT rfl rfl (by rw [hst.hf.length]; rfl) (hst.keep hS hF2.stays).rf) hS ?_
        refine dr_pure 16 hT rfl (by decide +kernel) rfl rfl rfl ?_
        refine dr_pure 17 hT rfl (by decide +kernel) rfl rfl rfl ?_
        refine dr_num 18 (((most - nn : Nat) : Int)) rfl (by decide +kernel) rfl rfl rfl rfl rfl (by simp only [ariP]; omega) ?_
        refine dr_op 9 rfl (by decide +kernel) rfl rfl (opTo_call rfl rfl rfl rfl (by decide +kernel) ((exprParts_ret _ e (Nat.le_refl _) (most - nn) (hst.keep hS hF2.stays).he (hF2.keep hS) (by omega)).mono ?_))
        rintro v4 w4 ⟨rfl, hk4⟩
        replace hS := hS.tr hk4
        refine ⟨fun _ => hS, ?_⟩
        refine dr_num 10 (((1 + min (szE e) (most - nn + 1) : Nat) : Int)) rfl (by decide +kernel) rfl rfl rfl rfl rfl (by simp only [ariP]; omega) ?_
        refine dr_op 19 rfl (by decide +kernel) rfl rfl (opTo_call rfl rfl rfl rfl (by decide +kernel) ((exprParts_ret _ f (Nat.le_refl _) (most - nn) (hst.keep hS hF2.stays).hf (hF2.keep hS) (by omega)).mono ?_))
        rintro v5 w5 ⟨rfl, hk5⟩
        replace hS := hS.tr hk5
        refine ⟨fun _ => hS, ?_⟩
        refine dr_num 20 (((1 + min (szE e) (most - nn + 1) + min (szE f) (most - nn + 1) : Nat) : Int)) rfl (by decide +kernel) rfl rfl rfl rfl rfl (by simp only [ariP]; omega) ?_
        refine dr_num 21 (((nn + (1 + min (szE e) (most - nn + 1) + min (szE f) (most - nn + 1)) : Nat) : Int)) rfl (by decide +kernel) rfl rfl rfl rfl rfl (by simp only [ariP]; omega) ?_
        refine dr_pure 22 hT rfl (by decide +kernel) rfl rfl rfl ?_
        refine dr_done (by decide +kernel) ?_
        replace hst := hst.keep hS hF2.stays
        replace hF2 := hF2.keep hS
        replace hk2 := hk2.tr hS
        have hc : Cnt (szSs (l.take i) + (1 + szE e + szE f)) most (nn + (1 + min (szE e) (most - nn + 1) + min (szE f) (most - nn + 1))) := by
          refine ⟨fun h => ?_, fun h => ?_, ?_⟩ <;> omega
        generalize nn + (1 + min (szE e) (most - nn + 1) + min (szE f) (most - nn + 1)) = n1 at *
        obtain ⟨hc1, hc2, hc3⟩ := hc
        (repeat (first | refine pl_pure hT rfl rfl rfl ?_ | refine pl_nil ?_ | refine rn_seq ?_ | refine rn_plain ?_ | refine rn_block ?_ | refine rn_inBlock ?_ | refine rn_skip ?_ | refine rn_true rfl ?_ | refine rn_false rfl ?_ | refine rn_exit rfl ?_ | refine pl_not rfl rfl ?_))
        by_cases h1 : n1 ≤ most
        · refine pl_yes rfl rfl rfl rfl rfl (by first | (simp only [cmpP]; omega) | (simp [cmpP]; done) | (simp [cmpP]; omega)) ?_
          (repeat (first | refine pl_pure hT rfl rfl rfl ?_ | refine pl_nil ?_ | refine rn_seq ?_ | refine rn_plain ?_ | refine rn_block ?_ | refine rn_inBlock ?_ | refine rn_skip ?_ | refine rn_true rfl ?_ | refine rn_false rfl ?_ | refine rn_exit rfl ?_ | refine pl_not rfl rfl ?_))
          refine pl_val _ rfl rfl (val_index i hT rfl rfl rfl rfl rfl hlt w5) ?_
          (repeat (first | refine pl_pure hT rfl rfl rfl ?_ | refine pl_nil ?_ | refine rn_seq ?_ | refine rn_plain ?_ | refine rn_block ?_ | refine rn_inBlock ?_ | refine rn_skip ?_ | refine rn_true rfl ?_ | refine rn_false rfl ?_ | refine rn_exit rfl ?_ | refine pl_not rfl rfl ?_))
          refine pl_val _ rfl rfl (val_load1 hT rfl rfl rfl (hst.cb)) ?_
          (repeat (first | refine pl_pure hT rfl rfl rfl ?_ | refine pl_nil ?_ | refine rn_seq ?_ | refine rn_plain ?_ | refine rn_block ?_ | refine rn_inBlock ?_ | refine rn_skip ?_ | refine rn_true rfl ?_ | refine rn_false rfl ?_ | refine rn_exit rfl ?_ | refine pl_not rfl rfl ?_))
          refine pl_num (((most - n1 : Nat) : Int)) rfl rfl rfl rfl rfl (by simp only [ariP]; omega) ?_
          refine pl_op rfl rfl (opTo_call rfl rfl rfl rfl (by decide +kernel) ((ih lb (by omega) (most - n1) hst.hb hF2 (by omega)).mono ?_))
          rintro v6 w6 ⟨c6, rfl, ⟨hd1, hd2, hd3⟩, hk6⟩
          refine pl_num (((n1 + c6 : Nat) : Int)) rfl rfl rfl rfl rfl (by simp only [ariP]; omega) ?_
          (repeat (first | refine pl_pure hT rfl rfl rfl ?_ | refine pl_nil ?_ | refine rn_seq ?_ | refine rn_plain ?_ | refine rn_block ?_ | refine rn_inBlock ?_ | refine rn_skip ?_ | refine rn_true rfl ?_ | refine rn_false rfl ?_ | refine rn_exit rfl ?_ | refine pl_not rfl rfl ?_))
          replace hst := hst.keep hk6 hF2.stays
          replace hF2 := hF2.keep hk6
          replace hk2 := hk2.tr hk6
          by_cases h2 : n1 + c6 ≤ most
          · refine pl_yes rfl rfl rfl rfl rfl (by first | (simp only [cmpP]; omega) | (simp [cmpP]; done) | (simp [cmpP]; omega)) ?_
            (repeat (first | refine pl_pure hT rfl rfl rfl ?_ | refine pl_nil ?_ | refine rn_seq ?_ | refine rn_plain ?_ | refine rn_block ?_ | refine rn_inBlock ?_ | refine rn_skip ?_ | refine rn_true rfl ?_ | refine rn_false rfl ?_ | refine rn_exit rfl ?_ | refine pl_not rfl rfl ?_))
            refine pl_val _ rfl rfl (val_index i hT rfl rfl rfl rfl rfl hlt w6) ?_
            (repeat (first | refine pl_pure hT rfl rfl rfl ?_ | refine pl_nil ?_ | refine rn_seq ?_ | refine rn_plain ?_ | refine rn_block ?_ | refine rn_inBlock ?_ | refine rn_skip ?_ | refine rn_true rfl ?_ | refine rn_false rfl ?_ | refine rn_exit rfl ?_ | refine pl_not rfl rfl ?_))
            refine pl_val _ rfl rfl (val_load1 hT rfl rfl rfl (hst.co)) ?_
            (repeat (first | refine pl_pure hT rfl rfl rfl ?_ | refine pl_nil ?_ | refine rn_seq ?_ | refine rn_plain ?_ | refine rn_block ?_ | refine rn_inBlock ?_ | refine rn_skip ?_ | refine rn_true rfl ?_ | refine rn_false rfl ?_ | refine rn_exit rfl ?_ | refine pl_not rfl rfl ?_))
            refine pl_num (((most - (n1 + c6) : Nat) : Int)) rfl rfl rfl rfl rfl (by simp only [ariP]; omega) ?_
            refine pl_op rfl rfl (opTo_call rfl rfl rfl rfl (by decide +kernel) ((ih lo (by omega) (most - (n1 + c6)) hst.ho hF2 (by omega)).mono ?_))
            rintro v7 w7 ⟨c7, rfl, ⟨he1, he2, he3⟩, hk7⟩
            refine pl_num (((n1 + c6 + c7 : Nat) : Int)) rfl rfl rfl rfl rfl (by simp only [ariP]; omega) ?_
            (repeat (first | refine pl_pure hT rfl rfl rfl ?_ | refine pl_nil ?_ | refine rn_seq ?_ | refine rn_plain ?_ | refine rn_block ?_ | refine rn_inBlock ?_ | refine rn_skip ?_ | refine rn_true rfl ?_ | refine rn_false rfl ?_ | refine rn_exit rfl ?_ | refine pl_not rfl rfl ?_))
            refine pl_num (((i + 1 : Nat) : Int)) rfl rfl rfl rfl rfl (by simp only [ariP]; omega) ?_
            (repeat (first | refine pl_pure hT rfl rfl rfl ?_ | refine pl_nil ?_ | refine rn_seq ?_ | refine rn_plain ?_ | refine rn_block ?_ | refine rn_inBlock ?_ | refine rn_skip ?_ | refine rn_true rfl ?_ | refine rn_false rfl ?_ | refine rn_exit rfl ?_ | refine pl_not rfl rfl ?_))
            refine rn_sub ?_ (ih2 (l.length - (i + 1)) [(0, .slice (some ⟨bb, q, none⟩) l.length cap), (1, .int .i64 (most : Nat)), (5, .int .i64 ((n1 + c6 + c7 : Nat) : Int)), (6, .int .i64 ((i + 1 : Nat) : Int))] w7 (by omega)
              ⟨i + 1, _, by omega, rfl, rfl, ?_, hk2.tr hk7⟩)
            · exact ⟨rfl, rfl, rfl, rfl, trivial⟩
            · refine ⟨fun h => ?_, fun h => ?_, ?_⟩ <;> omega
          · refine pl_no rfl rfl rfl rfl rfl rfl (by first | (simp only [cmpP]; omega) | (simp [cmpP]; done) | (simp [cmpP]; omega)) ?_
            (repeat (first | refine pl_pure hT rfl rfl rfl ?_ | refine pl_nil ?_ | refine rn_seq ?_ | refine rn_plain ?_ | refine rn_block ?_ | refine rn_inBlock ?_ | refine rn_skip ?_ | refine rn_true rfl ?_ | refine rn_false rfl ?_ | refine rn_exit rfl ?_ | refine pl_not rfl rfl ?_))
            refine pl_num (((i + 1 : Nat) : Int)) rfl rfl rfl rfl rfl (by simp only [ariP]; omega) ?_
            (repeat (first | refine pl_pure hT rfl rfl rfl ?_ | refine pl_nil ?_ | refine rn_seq ?_ | refine rn_plain ?_ | refine rn_block ?_ | refine rn_inBlock ?_ | refine rn_skip ?_ | refine rn_true rfl ?_ | refine rn_false rfl ?_ | refine rn_exit rfl ?_ | refine pl_not rfl rfl ?_))
            refine rn_sub ?_ (ih2 (l.length - (i + 1)) [(0, .slice (some ⟨bb, q, none⟩) l.length cap), (1, .int .i64 (most : Nat)), (5, .int .i64 ((n1 + c6 : Nat) : Int)), (6, .int .i64 ((i + 1 : Nat) : Int))] w6 (by omega)
              ⟨i + 1, _, by omega, rfl, rfl, ?_, hk2⟩)
            · exact ⟨rfl, rfl, rfl, rfl, trivial⟩
            · refine ⟨fun h => ?_, fun h => ?_, ?_⟩ <;> omega
        · refine pl_no rfl rfl rfl rfl rfl rfl (by first | (simp only [cmpP]; omega) | (simp [cmpP]; done) | (simp [cmpP]; omega)) ?_
          (repeat (first | refine pl_pure hT rfl rfl rfl ?_ | refine pl_nil ?_ | refine rn_seq ?_ | refine rn_plain ?_ | refine rn_block ?_ | refine rn_inBlock ?_ | refine rn_skip ?_ | refine rn_true rfl ?_ | refine rn_false rfl ?_ | refine rn_exit rfl ?_ | refine pl_not rfl rfl ?_))
          refine pl_no rfl rfl rfl rfl rfl rfl (by first | (simp only [cmpP]; omega) | (simp [cmpP]; done) | (simp [cmpP]; omega)) ?_
          (repeat (first | refine pl_pure hT rfl rfl rfl ?_ | refine pl_nil ?_ | refine rn_seq ?_ | refine rn_plain ?_ | refine rn_block ?_ | refine rn_inBlock ?_ | refine rn_skip ?_ | refine rn_true rfl ?_ | refine rn_false rfl ?_ | refine rn_exit rfl ?_ | refine pl_not rfl rfl ?_))
          refine pl_num (((i + 1 : Nat) : Int)) rfl rfl rfl rfl rfl (by simp only [ariP]; omega) ?_
          (repeat (first | refine pl_pure hT rfl rfl rfl ?_ | refine pl_nil ?_ | refine rn_seq ?_ | refine rn_plain ?_ | refine rn_block ?_ | refine rn_inBlock ?_ | refine rn_skip ?_ | refine rn_true rfl ?_ | refine rn_false rfl ?_ | refine rn_exit rfl ?_ | refine pl_not rfl rfl ?_))
          refine rn_sub ?_ (ih2 (l.length - (i + 1)) [(0, .slice (some ⟨bb, q, none⟩) l.length cap), (1, .int .i64 (most : Nat)), (5, .int .i64 ((n1 : Nat) : Int)), (6, .int .i64 ((i + 1 : Nat) : Int))] w5 (by omega)
              ⟨i + 1, _, by omega, rfl, rfl, ?_, hk2⟩)
          · exact ⟨rfl, rfl, rfl, rfl, trivial⟩
          · refine ⟨fun h => ?_, fun h => ?_, ?_⟩ <;> omega
      · refine pl_no rfl rfl rfl rfl rfl rfl (by first | (simp only [cmpP]; omega) | (simp [cmpP]; done) | (simp [cmpP]; omega)) ?_
        (repeat (first | refine pl_pure hT rfl rfl rfl ?_ | refine pl_nil ?_ | refine rn_seq ?_ | refine rn_plain ?_ | refine rn_block ?_ | refine rn_inBlock ?_ | refine rn_skip ?_ | refine rn_true rfl ?_ | refine rn_false rfl ?_ | refine rn_exit rfl ?_ | refine pl_not rfl rfl ?_))
        refine rn_ret Try.func64 (.inl ⟨_, rfl, rfl⟩) ⟨nn, rfl, ?_, hk2⟩
        refine ⟨fun h => ?_, fun h => ?_, ?_⟩ <;> omega
    · refine pl_no rfl rfl rfl rfl rfl rfl (by first | (simp only [cmpP]; omega) | (simp [cmpP]; done) | (simp [cmpP]; omega)) ?_
      (repeat (first | refine pl_pure hT rfl rfl rfl ?_ | refine pl_nil ?_ | refine rn_seq ?_ | refine rn_plain ?_ | refine rn_block ?_ | refine rn_inBlock ?_ | refine rn_skip ?_ | refine rn_true rfl ?_ | refine rn_false rfl ?_ | refine rn_exit rfl ?_ | refine pl_not rfl rfl ?_))
      refine rn_ret Try.func64 (.inl ⟨_, rfl, rfl⟩) ⟨nn, rfl, ?_, hk2⟩
      have : l.take i = l := List.take_of_length_le (by omega)
      rw [this] at hn1 hn2
      exact ⟨hn1, hn2, hn3⟩
end E
end Go.Proofs.Ytpbdjpoohpocfab
