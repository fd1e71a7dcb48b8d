/- Contracts of package disk's small functions: Has, New, Wait, and the closures of Flush, Crash and Read. -/
import Derived.Test.YtcecheleagljgabInts
import Derived.Test.YtcecheleagljgabProg
namespace Go.Proofs.Ytcecheleagljgab
set_option maxRecDepth 20000
namespace E
open Go.Proofs

def tbl : Tbl := { fld := [(27, [(0, 0), (1, 1), (2, 2), (3, 3)]), (28, [(0, 0), (1, 1), (2, 2), (3, 3)]), (42, [(0, 0), (1, 1)]), (43, [(0, 0), (1, 1)]), (49, [(0, 0), (1, 272)]), (50, [(0, 0), (1, 272)]), (51, [(0, 0)]), (52, [(0, 0)]), (58, [(0, 0), (1, 1), (2, 3)]), (59, [(0, 0), (1, 1), (2, 3)]), (62, [(0, 0), (1, 1), (2, 18), (3, 52)]), (63, [(0, 0), (1, 1), (2, 18), (3, 52)]), (78, [(0, 0), (1, 1)]), (79, [(0, 0), (1, 1)]), (94, [(0, 0), (1, 1), (2, 2), (3, 3), (4, 4), (5, 5), (6, 6), (7, 7), (8, 8), (9, 9), (10, 10)])], sl := [(22, 4), (23, 9), (48, 9), (61, 1), (66, 8), (75, 1)], ar := [(36, (8, 1)), (37, (8, 1)), (38, (14, 8)), (46, (14, 1)), (47, (34, 8)), (56, (2, 1)), (57, (14, 1)), (60, (34, 1)), (83, (0, 1))], one := [(1, ()), (2, ()), (3, ()), (4, ()), (5, ()), (6, ()), (9, ()), (10, ()), (11, ()), (12, ()), (15, ()), (16, ()), (17, ()), (21, ()), (22, ()), (23, ()), (24, ()), (25, ()), (26, ()), (29, ()), (30, ()), (31, ()), (32, ()), (33, ()), (35, ()), (39, ()), (40, ()), (41, ()), (44, ()), (45, ()), (48, ()), (53, ()), (54, ()), (55, ()), (61, ()), (64, ()), (65, ()), (66, ()), (67, ()), (68, ()), (69, ()), (70, ()), (71, ()), (72, ()), (73, ()), (74, ()), (75, ()), (76, ()), (77, ()), (80, ()), (86, ()), (87, ()), (88, ()), (89, ()), (90, ()), (91, ()), (92, ()), (93, ())], ag := [(27, 4), (28, 4), (36, 8), (37, 8), (38, 112), (42, 9), (43, 9), (46, 14), (47, 272), (49, 273), (50, 273), (51, 1), (52, 1), (56, 2), (57, 14), (58, 17), (59, 17), (60, 34), (62, 53), (63, 53), (78, 9), (79, 9), (83, 0), (94, 11)] }
theorem hT : tbl.check Try.prog = true := by decide +kernel
theorem hMix : Try.prog.follows .mixedOrders = true := by decide +kernel

/-- A write that waits: its sector, its words. -/
abbrev Wr := Nat × List Int
def wcell (p : Wr) : List Value := .int .i64 p.1 :: ints p.2
def wcells (L : List Wr) : List Value := L.flatMap wcell

/-- There is such a sector. -/
def hasB (i : Int) : Bool := decide (0 ≤ i) && decide (i < 34)

theorem has_ret (i : Int) (w : World) : Ret Try.prog 35 [.int .i64 i] w fun v w' => v = .bool (hasB i) ∧ w' = w := by
  refine ret_of 9 Try.func35 rfl rfl (by simp) ?_
  repeat (first | refine pl_pure hT rfl rfl rfl ?_ | refine pl_nil ?_ | refine rn_seq ?_ | refine rn_plain ?_ | refine rn_block ?_ | refine rn_inBlock ?_ | refine rn_skip ?_ | refine rn_true rfl ?_ | refine rn_false rfl ?_ | refine rn_exit rfl ?_ | refine pl_not rfl rfl ?_)
  by_cases h0 : 0 ≤ i
  · refine pl_val (.bool true) rfl rfl (val_int .i64 i 0 _ rfl rfl rfl (by simp [intOp, h0]) w) ?_
    repeat (first | refine pl_pure hT rfl rfl rfl ?_ | refine pl_nil ?_ | refine rn_seq ?_ | refine rn_plain ?_ | refine rn_block ?_ | refine rn_inBlock ?_ | refine rn_skip ?_ | refine rn_true rfl ?_ | refine rn_false rfl ?_ | refine rn_exit rfl ?_ | refine pl_not rfl rfl ?_)
    refine pl_val (.bool (decide (i < 34))) rfl rfl (val_int .i64 i 34 _ rfl rfl rfl (by simp [intOp]) w) ?_
    repeat (first | refine pl_pure hT rfl rfl rfl ?_ | refine pl_nil ?_ | refine rn_seq ?_ | refine rn_plain ?_ | refine rn_block ?_ | refine rn_inBlock ?_ | refine rn_skip ?_ | refine rn_true rfl ?_ | refine rn_false rfl ?_ | refine rn_exit rfl ?_ | refine pl_not rfl rfl ?_)
    refine rn_ret Try.func35 (.inl ⟨_, rfl, rfl⟩) ⟨?_, rfl⟩
    simp [hasB, h0]
  · refine pl_val (.bool false) rfl rfl (val_int .i64 i 0 _ rfl rfl rfl (by simp [intOp, h0]) w) ?_
    repeat (first | refine pl_pure hT rfl rfl rfl ?_ | refine pl_nil ?_ | refine rn_seq ?_ | refine rn_plain ?_ | refine rn_block ?_ | refine rn_inBlock ?_ | refine rn_skip ?_ | refine rn_true rfl ?_ | refine rn_false rfl ?_ | refine rn_exit rfl ?_ | refine pl_not rfl rfl ?_)
    refine rn_ret Try.func35 (.inl ⟨_, rfl, rfl⟩) ⟨?_, rfl⟩
    simp [hasB, h0]

/-- What a disk is in memory: its sectors S (272 words), the writes L that wait; wv: the slice that holds them. -/
structure DiskV (B : Nat) (w : World) (d : Nat) (S : List Int) (L : List Wr) (wv : Value) : Prop where
  blk : Blk w d (ints S ++ [wv]) 50
  owns : w.ownsRow B 79 9 wv L.length (wcells L)
  ne : wv.ownBlock ≠ some d
  len : S.length = 272
  base : B ≤ d
  wf : ∀ p ∈ L, p.1 < 34 ∧ p.2.length = 8

/-- The blocks of a disk. -/
def fpD (d : Nat) (wv : Value) : List Nat := d :: wv.ownBlock.toList

theorem DiskV.keep {B : Nat} {w w' : World} {d : Nat} {S : List Int} {L : List Wr} {wv : Value} {fp : List Nat} (h : DiskV B w d S L wv) (hk : Keep fp w w') (hn : ∀ k ∈ fpD d wv, k ∉ fp) : DiskV B w' d S L wv :=
  ⟨hk.blk h.blk (hn d (by simp [fpD])), hk.owns h.owns fun k e => hn k (by simp [fpD, e]), h.ne, h.len, h.base, h.wf⟩
theorem DiskV.lt {B : Nat} {w : World} {d : Nat} {S : List Int} {L : List Wr} {wv : Value} (h : DiskV B w d S L wv) : ∀ k ∈ fpD d wv, B ≤ k ∧ k < w.heap.size := by
  intro k hk
  simp only [fpD, List.mem_cons, Option.mem_toList] at hk
  rcases hk with rfl | hk
  · exact ⟨h.base, h.blk.lt⟩
  · exact h.owns.lt k hk

theorem new_zero : (Try.prog.built 50 []) = some (ints (List.replicate 272 0) ++ [Value.slice none 0 0]).toArray := by kernel_rfl

theorem new_ret (w : World) : Ret Try.prog 7 [] w fun v w' => v = .pointer (some ⟨w.heap.size, 0, none⟩) ∧ DiskV w.heap.size w' w.heap.size (List.replicate 272 0) [] (.slice none 0 0) ∧ Keep [] w w' := by
  refine ret_of 3 Try.func7 rfl rfl (by simp) ?_
  repeat (first | refine pl_pure hT rfl rfl rfl ?_ | refine pl_nil ?_ | refine rn_seq ?_ | refine rn_plain ?_ | refine rn_block ?_ | refine rn_inBlock ?_ | refine rn_skip ?_ | refine rn_true rfl ?_ | refine rn_false rfl ?_ | refine rn_exit rfl ?_ | refine pl_not rfl rfl ?_)
  refine pl_val _ rfl rfl (val_build (ints (List.replicate 272 0) ++ [Value.slice none 0 0]) rfl rfl new_zero w) ?_
  refine pl_op rfl rfl (opTo_box _ rfl rfl rfl ?_)
  repeat (first | refine pl_pure hT rfl rfl rfl ?_ | refine pl_nil ?_ | refine rn_seq ?_ | refine rn_plain ?_ | refine rn_block ?_ | refine rn_inBlock ?_ | refine rn_skip ?_ | refine rn_true rfl ?_ | refine rn_false rfl ?_ | refine rn_exit rfl ?_ | refine pl_not rfl rfl ?_)
  refine rn_ret Try.func7 (.inl ⟨_, rfl, rfl⟩) ⟨rfl, ⟨Blk.new w _ _, World.ownsRow_nil _ _ _ _, by simp [Value.ownBlock], List.length_replicate, Nat.le_refl _, by simp⟩, (Keep.refl _ _).alloc _⟩

theorem flush1_ret (i : Int) (w : World) : Ret Try.prog 36 [.int .i64 i] w fun v w' => v = .bool true ∧ w' = w := by
  refine ret_of 3 Try.func36 rfl rfl (by simp) ?_
  repeat (first | refine pl_pure hT rfl rfl rfl ?_ | refine pl_nil ?_ | refine rn_seq ?_ | refine rn_plain ?_ | refine rn_block ?_ | refine rn_inBlock ?_ | refine rn_skip ?_ | refine rn_true rfl ?_ | refine rn_false rfl ?_ | refine rn_exit rfl ?_ | refine pl_not rfl rfl ?_)
  exact rn_ret Try.func36 (.inl ⟨_, rfl, rfl⟩) ⟨rfl, rfl⟩
end E
end Go.Proofs.Ytcecheleagljgab
