/- Contracts of package disk's small functions: Has, New, Wait, and the closures of Flush, Crash and Read. -/
import Derived.Test.YtcnjmjdnlhiflabInts
import Derived.Test.YtcnjmjdnlhiflabProg
namespace Go.Proofs.Ytcnjmjdnlhiflab
set_option maxRecDepth 20000
namespace E
open Go.Proofs

def tbl : Tbl := { fld := [(27, [(0, 0), (1, 1), (2, 2), (3, 3)]), (28, [(0, 0), (1, 1), (2, 2), (3, 3)]), (42, [(0, 0), (1, 1)]), (43, [(0, 0), (1, 1)]), (47, [(0, 0), (1, 1), (2, 113), (3, 114)]), (48, [(0, 0), (1, 1), (2, 113), (3, 114)]), (53, [(0, 0), (1, 1), (2, 2), (3, 3), (4, 4)]), (54, [(0, 0), (1, 1), (2, 2), (3, 3), (4, 4)]), (58, [(0, 0), (1, 1)]), (66, [(0, 0), (1, 1), (2, 113)]), (67, [(0, 0), (1, 1), (2, 113)]), (72, [(0, 0), (1, 272)]), (73, [(0, 0), (1, 272)]), (74, [(0, 0)]), (75, [(0, 0)]), (81, [(0, 0), (1, 1), (2, 3)]), (82, [(0, 0), (1, 1), (2, 3)]), (85, [(0, 0), (1, 1), (2, 18), (3, 52)]), (86, [(0, 0), (1, 1), (2, 18), (3, 52)]), (103, [(0, 0), (1, 1)]), (104, [(0, 0), (1, 1)]), (119, [(0, 0), (1, 1), (2, 2), (3, 3), (4, 4), (5, 5), (6, 6), (7, 7), (8, 8), (9, 9), (10, 10)])], sl := [(22, 4), (23, 9), (45, 5), (51, 1), (56, 9), (71, 9), (84, 1), (89, 8)], ar := [(36, (8, 1)), (37, (8, 1)), (38, (14, 8)), (52, (14, 1)), (65, (112, 1)), (70, (34, 8)), (79, (2, 1)), (80, (14, 1)), (83, (34, 1)), (108, (0, 1))], one := [(1, ()), (2, ()), (3, ()), (4, ()), (5, ()), (6, ()), (9, ()), (10, ()), (11, ()), (12, ()), (15, ()), (16, ()), (17, ()), (21, ()), (22, ()), (23, ()), (24, ()), (25, ()), (26, ()), (29, ()), (30, ()), (31, ()), (32, ()), (33, ()), (35, ()), (39, ()), (40, ()), (41, ()), (44, ()), (45, ()), (46, ()), (49, ()), (50, ()), (51, ()), (55, ()), (56, ()), (57, ()), (59, ()), (60, ()), (61, ()), (62, ()), (63, ()), (64, ()), (68, ()), (69, ()), (71, ()), (76, ()), (77, ()), (78, ()), (84, ()), (87, ()), (88, ()), (89, ()), (90, ()), (91, ()), (92, ()), (93, ()), (94, ()), (95, ()), (96, ()), (97, ()), (98, ()), (99, ()), (100, ()), (101, ()), (102, ()), (105, ()), (111, ()), (112, ()), (113, ()), (114, ()), (115, ()), (116, ()), (117, ()), (118, ())], ag := [(27, 4), (28, 4), (36, 8), (37, 8), (38, 112), (42, 9), (43, 9), (47, 226), (48, 226), (52, 14), (53, 5), (54, 5), (58, 9), (65, 112), (66, 127), (67, 127), (70, 272), (72, 273), (73, 273), (74, 1), (75, 1), (79, 2), (80, 14), (81, 17), (82, 17), (83, 34), (85, 53), (86, 53), (103, 9), (104, 9), (108, 0), (119, 11)] }
theorem hT : tbl.check Try.prog = true := by decide +kernel
theorem hMix : Try.prog.follows .mixedOrders = true := by decide +kernel

/-- A write that waits: its sector, its words. -/
abbrev Wr := Nat × List Int
def wcell (p : Wr) : List Value := .int .i64 p.1 :: ints p.2
def wcells (L : List Wr) : List Value := L.flatMap wcell

/-- There is such a sector. -/
def hasB (i : Int) : Bool := decide (0 ≤ i) && decide (i < 34)

theorem has_ret (i : Int) (w : World) : Ret Try.prog 54 [.int .i64 i] w fun v w' => v = .bool (hasB i) ∧ w' = w := by
  refine ret_of 9 Try.func54 rfl rfl (by simp) ?_
  repeat (first | refine pl_pure hT rfl rfl rfl ?_ | refine pl_nil ?_ | refine rn_seq ?_ | refine rn_plain ?_ | refine rn_block ?_ | refine rn_inBlock ?_ | refine rn_skip ?_ | refine rn_true rfl ?_ | refine rn_false rfl ?_ | refine rn_exit rfl ?_ | refine pl_not rfl rfl ?_)
  by_cases h0 : 0 ≤ i
  · refine pl_val (.bool true) rfl rfl (val_int .i64 i 0 _ rfl rfl rfl (by simp [intOp, h0]) w) ?_
    repeat (first | refine pl_pure hT rfl rfl rfl ?_ | refine pl_nil ?_ | refine rn_seq ?_ | refine rn_plain ?_ | refine rn_block ?_ | refine rn_inBlock ?_ | refine rn_skip ?_ | refine rn_true rfl ?_ | refine rn_false rfl ?_ | refine rn_exit rfl ?_ | refine pl_not rfl rfl ?_)
    refine pl_val (.bool (decide (i < 34))) rfl rfl (val_int .i64 i 34 _ rfl rfl rfl (by simp [intOp]) w) ?_
    repeat (first | refine pl_pure hT rfl rfl rfl ?_ | refine pl_nil ?_ | refine rn_seq ?_ | refine rn_plain ?_ | refine rn_block ?_ | refine rn_inBlock ?_ | refine rn_skip ?_ | refine rn_true rfl ?_ | refine rn_false rfl ?_ | refine rn_exit rfl ?_ | refine pl_not rfl rfl ?_)
    refine rn_ret Try.func54 (.inl ⟨_, rfl, rfl⟩) ⟨?_, rfl⟩
    simp [hasB, h0]
  · refine pl_val (.bool false) rfl rfl (val_int .i64 i 0 _ rfl rfl rfl (by simp [intOp, h0]) w) ?_
    repeat (first | refine pl_pure hT rfl rfl rfl ?_ | refine pl_nil ?_ | refine rn_seq ?_ | refine rn_plain ?_ | refine rn_block ?_ | refine rn_inBlock ?_ | refine rn_skip ?_ | refine rn_true rfl ?_ | refine rn_false rfl ?_ | refine rn_exit rfl ?_ | refine pl_not rfl rfl ?_)
    refine rn_ret Try.func54 (.inl ⟨_, rfl, rfl⟩) ⟨?_, rfl⟩
    simp [hasB, h0]

/-- What a disk is in memory: its sectors S (272 words), the writes L that wait; wv: the slice that holds them. -/
structure DiskV (B : Nat) (w : World) (d : Nat) (S : List Int) (L : List Wr) (wv : Value) : Prop where
  blk : Blk w d (ints S ++ [wv]) 73
  owns : w.ownsRow B 104 9 wv L.length (wcells L)
  ne : wv.ownBlock ≠ some d
  len : S.length = 272
  base : B ≤ d
  wf : ∀ p ∈ L, p.1 < 34 ∧ p.2.length = 8

/-- The blocks of a disk. -/
def fpD (d : Nat) (wv : Value) : List Nat := d :: wv.ownBlock.toList

theorem DiskV.keep {B : Nat} {w w' : World} {d : Nat} {S : List Int} {L : List Wr} {wv : Value} {fp : List Nat} (h : DiskV B w d S L wv) (hk : Keep fp w w') (hn : ∀ k ∈ fpD d wv, k ∉ fp) : DiskV B w' d S L wv :=
  ⟨hk.blk h.blk (hn d (by simp [fpD])), hk.owns h.owns fun k e => hn k (by simp [fpD, e]), h.ne, h.len, h.base, h.wf⟩
theorem DiskV.lt {B : Nat} {w : World} {d : Nat} {S : List Int} {L : List Wr} {wv : Value} (h : DiskV B w d S L wv) : ∀ k ∈ fpD d wv, B ≤ k ∧ k < w.heap.size := by
  intro k hk
  simp only [fpD, List.mem_cons, Option.mem_toList] at hk
  rcases hk with rfl | hk
  · exact ⟨h.base, h.blk.lt⟩
  · exact h.owns.lt k hk

theorem new_zero : (Try.prog.built 73 []) = some (ints (List.replicate 272 0) ++ [Value.slice none 0 0]).toArray := by kernel_rfl

theorem new_ret (w : World) : Ret Try.prog 10 [] w fun v w' => v = .pointer (some ⟨w.heap.size, 0, none⟩) ∧ DiskV w.heap.size w' w.heap.size (List.replicate 272 0) [] (.slice none 0 0) ∧ Keep [] w w' := by
  refine ret_of 3 Try.func10 rfl rfl (by simp) ?_
  repeat (first | refine pl_pure hT rfl rfl rfl ?_ | refine pl_nil ?_ | refine rn_seq ?_ | refine rn_plain ?_ | refine rn_block ?_ | refine rn_inBlock ?_ | refine rn_skip ?_ | refine rn_true rfl ?_ | refine rn_false rfl ?_ | refine rn_exit rfl ?_ | refine pl_not rfl rfl ?_)
  refine pl_val _ rfl rfl (val_build (ints (List.replicate 272 0) ++ [Value.slice none 0 0]) rfl rfl new_zero w) ?_
  refine pl_op rfl rfl (opTo_box _ rfl rfl rfl ?_)
  repeat (first | refine pl_pure hT rfl rfl rfl ?_ | refine pl_nil ?_ | refine rn_seq ?_ | refine rn_plain ?_ | refine rn_block ?_ | refine rn_inBlock ?_ | refine rn_skip ?_ | refine rn_true rfl ?_ | refine rn_false rfl ?_ | refine rn_exit rfl ?_ | refine pl_not rfl rfl ?_)
  refine rn_ret Try.func10 (.inl ⟨_, rfl, rfl⟩) ⟨rfl, ⟨Blk.new w _ _, World.ownsRow_nil _ _ _ _, by simp [Value.ownBlock], List.length_replicate, Nat.le_refl _, by simp⟩, (Keep.refl _ _).alloc _⟩

theorem flush1_ret (i : Int) (w : World) : Ret Try.prog 55 [.int .i64 i] w fun v w' => v = .bool true ∧ w' = w := by
  refine ret_of 3 Try.func55 rfl rfl (by simp) ?_
  repeat (first | refine pl_pure hT rfl rfl rfl ?_ | refine pl_nil ?_ | refine rn_seq ?_ | refine rn_plain ?_ | refine rn_block ?_ | refine rn_inBlock ?_ | refine rn_skip ?_ | refine rn_true rfl ?_ | refine rn_false rfl ?_ | refine rn_exit rfl ?_ | refine pl_not rfl rfl ?_)
  exact rn_ret Try.func55 (.inl ⟨_, rfl, rfl⟩) ⟨rfl, rfl⟩
end E
end Go.Proofs.Ytcnjmjdnlhiflab
