/- Contracts of package disk's small functions: Has, New, Wait, and the closures of Flush, Crash and Read. -/
import Derived.Test.YtcecheleagljgaaInts
import Derived.Test.YtcecheleagljgaaProg
namespace Go.Proofs.Ytcecheleagljgaa
set_option maxRecDepth 20000
namespace E
open Go.Proofs

def tbl : Tbl := { fld := [(29, [(0, 0), (1, 1), (2, 2)]), (30, [(0, 0), (1, 1), (2, 2)]), (34, [(0, 0), (1, 1), (2, 2), (3, 10)]), (35, [(0, 0), (1, 1), (2, 2), (3, 10)]), (49, [(0, 0), (1, 1), (2, 113), (3, 114)]), (50, [(0, 0), (1, 1), (2, 113), (3, 114)]), (54, [(0, 0), (1, 1), (2, 2), (3, 3)]), (55, [(0, 0), (1, 1), (2, 2), (3, 3)]), (65, [(0, 0), (1, 1)]), (66, [(0, 0), (1, 1)]), (72, [(0, 0), (1, 272)]), (73, [(0, 0), (1, 272)]), (74, [(0, 0), (1, 1)]), (75, [(0, 0), (1, 1)]), (83, [(0, 0)]), (84, [(0, 0)]), (86, [(0, 0), (1, 1)]), (92, [(0, 0), (1, 1), (2, 3)]), (93, [(0, 0), (1, 1), (2, 3)]), (96, [(0, 0), (1, 1), (2, 18), (3, 52)]), (97, [(0, 0), (1, 1), (2, 18), (3, 52)]), (120, [(0, 0), (1, 1), (2, 2), (3, 3), (4, 4), (5, 5), (6, 6), (7, 7), (8, 8), (9, 9), (10, 10)])], sl := [(22, 11), (27, 1), (28, 8), (45, 4), (53, 9), (58, 9), (64, 1), (71, 9), (95, 1), (106, 1)], ar := [(31, (8, 1)), (32, (8, 1)), (48, (14, 8)), (70, (34, 8)), (85, (14, 1)), (90, (2, 1)), (91, (14, 1)), (94, (34, 1)), (110, (0, 1))], one := [(1, ()), (2, ()), (3, ()), (4, ()), (5, ()), (6, ()), (9, ()), (10, ()), (11, ()), (12, ()), (15, ()), (16, ()), (17, ()), (21, ()), (22, ()), (23, ()), (24, ()), (25, ()), (26, ()), (27, ()), (28, ()), (33, ()), (36, ()), (37, ()), (38, ()), (39, ()), (40, ()), (41, ()), (42, ()), (43, ()), (44, ()), (45, ()), (46, ()), (47, ()), (51, ()), (52, ()), (53, ()), (56, ()), (57, ()), (58, ()), (59, ()), (61, ()), (62, ()), (63, ()), (64, ()), (67, ()), (68, ()), (69, ()), (71, ()), (76, ()), (77, ()), (79, ()), (80, ()), (81, ()), (82, ()), (87, ()), (88, ()), (89, ()), (95, ()), (98, ()), (99, ()), (100, ()), (101, ()), (102, ()), (103, ()), (104, ()), (105, ()), (106, ()), (107, ()), (113, ()), (114, ()), (115, ()), (116, ()), (117, ()), (118, ()), (119, ())], ag := [(29, 3), (30, 3), (31, 8), (32, 8), (34, 11), (35, 11), (48, 112), (49, 226), (50, 226), (54, 4), (55, 4), (65, 9), (66, 9), (70, 272), (72, 273), (73, 273), (74, 9), (75, 9), (83, 1), (84, 1), (85, 14), (86, 9), (90, 2), (91, 14), (92, 17), (93, 17), (94, 34), (96, 53), (97, 53), (110, 0), (120, 11)] }
theorem hT : tbl.check Try.prog = true := by decide +kernel
theorem hMix : Try.prog.follows .mixedOrders = true := by decide +kernel

/-- A write that waits: its sector, its words. -/
abbrev Wr := Nat × List Int
def wcell (p : Wr) : List Value := .int .i64 p.1 :: ints p.2
def wcells (L : List Wr) : List Value := L.flatMap wcell

/-- There is such a sector. -/
def hasB (i : Int) : Bool := decide (0 ≤ i) && decide (i < 34)

theorem has_ret (i : Int) (w : World) : Ret Try.prog 20 [.int .i64 i] w fun v w' => v = .bool (hasB i) ∧ w' = w := by
  refine ret_of 9 Try.func20 rfl rfl (by simp) ?_
  repeat (first | refine pl_pure hT rfl rfl rfl ?_ | refine pl_nil ?_ | refine rn_seq ?_ | refine rn_plain ?_ | refine rn_block ?_ | refine rn_inBlock ?_ | refine rn_skip ?_ | refine rn_true rfl ?_ | refine rn_false rfl ?_ | refine rn_exit rfl ?_ | refine pl_not rfl rfl ?_)
  by_cases h0 : 0 ≤ i
  · refine pl_val (.bool true) rfl rfl (val_int .i64 i 0 _ rfl rfl rfl (by simp [intOp, h0]) w) ?_
    repeat (first | refine pl_pure hT rfl rfl rfl ?_ | refine pl_nil ?_ | refine rn_seq ?_ | refine rn_plain ?_ | refine rn_block ?_ | refine rn_inBlock ?_ | refine rn_skip ?_ | refine rn_true rfl ?_ | refine rn_false rfl ?_ | refine rn_exit rfl ?_ | refine pl_not rfl rfl ?_)
    refine pl_val (.bool (decide (i < 34))) rfl rfl (val_int .i64 i 34 _ rfl rfl rfl (by simp [intOp]) w) ?_
    repeat (first | refine pl_pure hT rfl rfl rfl ?_ | refine pl_nil ?_ | refine rn_seq ?_ | refine rn_plain ?_ | refine rn_block ?_ | refine rn_inBlock ?_ | refine rn_skip ?_ | refine rn_true rfl ?_ | refine rn_false rfl ?_ | refine rn_exit rfl ?_ | refine pl_not rfl rfl ?_)
    refine rn_ret Try.func20 (.inl ⟨_, rfl, rfl⟩) ⟨?_, rfl⟩
    simp [hasB, h0]
  · refine pl_val (.bool false) rfl rfl (val_int .i64 i 0 _ rfl rfl rfl (by simp [intOp, h0]) w) ?_
    repeat (first | refine pl_pure hT rfl rfl rfl ?_ | refine pl_nil ?_ | refine rn_seq ?_ | refine rn_plain ?_ | refine rn_block ?_ | refine rn_inBlock ?_ | refine rn_skip ?_ | refine rn_true rfl ?_ | refine rn_false rfl ?_ | refine rn_exit rfl ?_ | refine pl_not rfl rfl ?_)
    refine rn_ret Try.func20 (.inl ⟨_, rfl, rfl⟩) ⟨?_, rfl⟩
    simp [hasB, h0]

/-- What a disk is in memory: its sectors S (272 words), the writes L that wait; wv: the slice that holds them. -/
structure DiskV (B : Nat) (w : World) (d : Nat) (S : List Int) (L : List Wr) (wv : Value) : Prop where
  blk : Blk w d (ints S ++ [wv]) 73
  owns : w.ownsRow B 75 9 wv L.length (wcells L)
  ne : wv.ownBlock ≠ some d
  len : S.length = 272
  base : B ≤ d
  wf : ∀ p ∈ L, p.1 < 34 ∧ p.2.length = 8

/-- The blocks of a disk. -/
def fpD (d : Nat) (wv : Value) : List Nat := d :: wv.ownBlock.toList

theorem DiskV.keep {B : Nat} {w w' : World} {d : Nat} {S : List Int} {L : List Wr} {wv : Value} {fp : List Nat} (h : DiskV B w d S L wv) (hk : Keep fp w w') (hn : ∀ k ∈ fpD d wv, k ∉ fp) : DiskV B w' d S L wv :=
  ⟨hk.blk h.blk (hn d (by simp [fpD])), hk.owns h.owns fun k e => hn k (by simp [fpD, e]), h.ne, h.len, h.base, h.wf⟩
theorem DiskV.lt {B : Nat} {w : World} {d : Nat} {S : List Int} {L : List Wr} {wv : Value} (h : DiskV B w d S L wv) : ∀ k ∈ fpD d wv, B ≤ k ∧ k < w.heap.size := by
  intro k hk
  simp only [fpD, List.mem_cons, Option.mem_toList] at hk
  rcases hk with rfl | hk
  · exact ⟨h.base, h.blk.lt⟩
  · exact h.owns.lt k hk

theorem new_zero : (Try.prog.built 73 []) = some (ints (List.replicate 272 0) ++ [Value.slice none 0 0]).toArray := by kernel_rfl

theorem new_ret (w : World) : Ret Try.prog 10 [] w fun v w' => v = .pointer (some ⟨w.heap.size, 0, none⟩) ∧ DiskV w.heap.size w' w.heap.size (List.replicate 272 0) [] (.slice none 0 0) ∧ Keep [] w w' := by
  refine ret_of 3 Try.func10 rfl rfl (by simp) ?_
  repeat (first | refine pl_pure hT rfl rfl rfl ?_ | refine pl_nil ?_ | refine rn_seq ?_ | refine rn_plain ?_ | refine rn_block ?_ | refine rn_inBlock ?_ | refine rn_skip ?_ | refine rn_true rfl ?_ | refine rn_false rfl ?_ | refine rn_exit rfl ?_ | refine pl_not rfl rfl ?_)
  refine pl_val _ rfl rfl (val_build (ints (List.replicate 272 0) ++ [Value.slice none 0 0]) rfl rfl new_zero w) ?_
  refine pl_op rfl rfl (opTo_box _ rfl rfl rfl ?_)
  repeat (first | refine pl_pure hT rfl rfl rfl ?_ | refine pl_nil ?_ | refine rn_seq ?_ | refine rn_plain ?_ | refine rn_block ?_ | refine rn_inBlock ?_ | refine rn_skip ?_ | refine rn_true rfl ?_ | refine rn_false rfl ?_ | refine rn_exit rfl ?_ | refine pl_not rfl rfl ?_)
  refine rn_ret Try.func10 (.inl ⟨_, rfl, rfl⟩) ⟨rfl, ⟨Blk.new w _ _, World.ownsRow_nil _ _ _ _, by simp [Value.ownBlock], List.length_replicate, Nat.le_refl _, by simp⟩, (Keep.refl _ _).alloc _⟩

theorem wait_ret {B : Nat} {w : World} {d : Nat} {S : List Int} {L : List Wr} {wv : Value} (h : DiskV B w d S L wv) :
    Ret Try.prog 17 [.pointer (some ⟨d, 0, none⟩)] w fun v w' => v = .int .i64 L.length ∧ w' = w := by
  refine ret_of 8 Try.func17 rfl rfl (by simp) ?_
  repeat (first | refine pl_pure hT rfl rfl rfl ?_ | refine pl_nil ?_ | refine rn_seq ?_ | refine rn_plain ?_ | refine rn_block ?_ | refine rn_inBlock ?_ | refine rn_skip ?_ | refine rn_true rfl ?_ | refine rn_false rfl ?_ | refine rn_exit rfl ?_ | refine pl_not rfl rfl ?_)
  refine pl_val wv rfl rfl (val_load1 hT rfl rfl rfl (h.blk.cell (by simp [h.len, ints_length]))) ?_
  have hv : ∃ a cap, wv = .slice a L.length cap := by
    rcases h.owns.2 with ⟨h1, h2⟩ | ⟨g, cap, cur, h1, _⟩
    · exact ⟨none, 0, by rw [h1, h2]⟩
    · exact ⟨_, cap, h1⟩
  obtain ⟨a, cap, rfl⟩ := hv
  repeat (first | refine pl_pure hT rfl rfl rfl ?_ | refine pl_nil ?_ | refine rn_seq ?_ | refine rn_plain ?_ | refine rn_block ?_ | refine rn_inBlock ?_ | refine rn_skip ?_ | refine rn_true rfl ?_ | refine rn_false rfl ?_ | refine rn_exit rfl ?_ | refine pl_not rfl rfl ?_)
  exact rn_ret Try.func17 (.inl ⟨_, rfl, rfl⟩) ⟨rfl, rfl⟩

theorem flush1_ret (i : Int) (w : World) : Ret Try.prog 36 [.int .i64 i] w fun v w' => v = .bool true ∧ w' = w := by
  refine ret_of 3 Try.func36 rfl rfl (by simp) ?_
  repeat (first | refine pl_pure hT rfl rfl rfl ?_ | refine pl_nil ?_ | refine rn_seq ?_ | refine rn_plain ?_ | refine rn_block ?_ | refine rn_inBlock ?_ | refine rn_skip ?_ | refine rn_true rfl ?_ | refine rn_false rfl ?_ | refine rn_exit rfl ?_ | refine pl_not rfl rfl ?_)
  exact rn_ret Try.func36 (.inl ⟨_, rfl, rfl⟩) ⟨rfl, rfl⟩
end E
end Go.Proofs.Ytcecheleagljgaa
