/- Contract of the first look: tokenBegun tells true. -/
import Derived.Test.YthidfgolcibcoacDoorTkD
namespace Go.Proofs.YthidfgolcibcoacDoor
set_option maxRecDepth 20000
set_option maxHeartbeats 4000000
namespace E
open Go.Proofs

def bitS (c : UInt8) (r : List UInt8) : Bit :=
  if blankB c then .skip
  else if parenB c then .tok [c] false 0
  else if letB c then .tok (c :: r.takeWhile letB) false 0
  else if dig c || c == 45 then
    (match longS (c :: r.takeWhile dig) with
     | some v => .tok (c :: r.takeWhile dig) true v
     | none => .bad)
  else .bad
theorem bit_S (c : UInt8) (r : List UInt8) : bit c r = bitS c r := by
  unfold bit bitS
  rw [longOf_eq]
  rfl
def toksS : Nat → Nat → List UInt8 → Except Nat (List Tok)
  | _, _, [] => .ok []
  | 0, pos, _ :: _ => .error pos
  | f + 1, pos, c :: r =>
    match bitS c r with
    | .bad => .error pos
    | .skip => toksS f (pos + 1) r
    | .tok t b v =>
      match toksS f (pos + t.length) ((c :: r).drop t.length) with
      | .error e => .error e
      | .ok l => .ok (⟨pos, t, b, v⟩ :: l)
theorem toks_S : ∀ (f pos : Nat) (l : List UInt8), toks f pos l = toksS f pos l
  | 0, _, [] => rfl
  | 0, _, _ :: _ => rfl
  | f + 1, _, [] => rfl
  | f + 1, pos, c :: r => by
    simp only [toks, toksS, bit_S, toks_S f]
    rfl
theorem scanOf_S (l : List UInt8) : scanOf l = toksS l.length 0 l := toks_S _ _ _

def ts0 : List Tok := [⟨0, [40], false, 0⟩, ⟨1, [110, 117, 109], false, 0⟩, ⟨5, [45, 53], true, -5⟩, ⟨7, [41], false, 0⟩]
theorem scan0 : scanOf [40, 110, 117, 109, 32, 45, 53, 41] = .ok ts0 := by rw [scanOf_S]; rfl
theorem scan1 : scanOf [40, 53, 120] = .ok [⟨0, [40], false, 0⟩, ⟨1, [53], true, 5⟩, ⟨2, [120], false, 0⟩] := by rw [scanOf_S]; rfl
theorem scan2 : scanOf [48, 53] = .error 0 := by rw [scanOf_S]; rfl

theorem begun_ret {w : World} (hw : Lw w) : Ret Tryd.prog 5 [] w fun r w' => r = .bool true ∧ Keep [] w w' := by
  obtain ⟨f0, t0⟩ := faultOf_ok (by decide) scan0
  obtain ⟨f1, t1⟩ := faultOf_ok (by decide) scan1
  obtain ⟨f2, t2⟩ := faultOf_error (by decide) scan2
  refine ret_of 50 Tryd.func5 rfl rfl (by simp) ?_
  (repeat (first | refine pl_pure hT rfl rfl rfl ?_ | refine pl_nil ?_ | refine rn_seq ?_ | refine rn_plain ?_ | refine rn_block ?_ | refine rn_inBlock ?_ | refine rn_skip ?_ | refine rn_true rfl ?_ | refine rn_false rfl ?_ | refine rn_exit rfl ?_ | refine pl_not rfl rfl ?_))
  refine pl_op rfl rfl (opTo_call (fst := []) (cap := []) rfl rfl rfl rfl (by decide +kernel) ((scan_ret [40, 110, 117, 109, 32, 45, 53, 41] (by decide) hw).mono ?_))
  rintro x w1 ⟨v, rfl, hown, hk1⟩
  rw [f0]
  rw [t0] at hown
  (repeat (first | refine pl_pure hT rfl rfl rfl ?_ | refine pl_nil ?_ | refine rn_seq ?_ | refine rn_plain ?_ | refine rn_block ?_ | refine rn_inBlock ?_ | refine rn_skip ?_ | refine rn_true rfl ?_ | refine rn_false rfl ?_ | refine rn_exit rfl ?_ | refine pl_not rfl rfl ?_))
  refine pl_op rfl rfl (opTo_allocN _ rfl zero_fault ?_)
  intro w2 a ha hs2 hk2 hA2
  (repeat (first | refine pl_pure hT rfl rfl rfl ?_ | refine pl_nil ?_ | refine rn_seq ?_ | refine rn_plain ?_ | refine rn_block ?_ | refine rn_inBlock ?_ | refine rn_skip ?_ | refine rn_true rfl ?_ | refine rn_false rfl ?_ | refine rn_exit rfl ?_ | refine pl_not rfl rfl ?_))
  refine pl_op rfl rfl (opTo_storeN [.int .i64 0, .int .i64 0] rfl rfl rfl rfl size_fault hA2 (by simp) (one_fault _ _) ?_)
  intro w3 hs3 hk3 hA3
  rw [splice_whole (by rfl)] at hA3
  have hk13 : Keep [] w1 w3 := hk2.trB hk3 (by omega)
  have hown3 := hown.keep hk13 (by simp)
  have hk03 := hk1.tr hk13
  (repeat (first | refine pl_pure hT rfl rfl rfl ?_ | refine pl_nil ?_ | refine rn_seq ?_ | refine rn_plain ?_ | refine rn_block ?_ | refine rn_inBlock ?_ | refine rn_skip ?_ | refine rn_true rfl ?_ | refine rn_false rfl ?_ | refine rn_exit rfl ?_ | refine pl_not rfl rfl ?_))
  refine pl_op rfl rfl (opTo_call (fst := []) (cap := []) rfl rfl rfl rfl (by decide +kernel) ((scan_ret [40, 53, 120] (by decide) (hw.keep hk03)).mono ?_))
  rintro x w4 ⟨v4, rfl, _, hk4⟩
  rw [f1]
  (repeat (first | refine pl_pure hT rfl rfl rfl ?_ | refine pl_nil ?_ | refine rn_seq ?_ | refine rn_plain ?_ | refine rn_block ?_ | refine rn_inBlock ?_ | refine rn_skip ?_ | refine rn_true rfl ?_ | refine rn_false rfl ?_ | refine rn_exit rfl ?_ | refine pl_not rfl rfl ?_))
  refine pl_op rfl rfl (opTo_allocN _ rfl zero_fault ?_)
  intro w5 b hb hs5 hk5 hB5
  (repeat (first | refine pl_pure hT rfl rfl rfl ?_ | refine pl_nil ?_ | refine rn_seq ?_ | refine rn_plain ?_ | refine rn_block ?_ | refine rn_inBlock ?_ | refine rn_skip ?_ | refine rn_true rfl ?_ | refine rn_false rfl ?_ | refine rn_exit rfl ?_ | refine pl_not rfl rfl ?_))
  refine pl_op rfl rfl (opTo_storeN [.int .i64 0, .int .i64 0] rfl rfl rfl rfl size_fault hB5 (by simp) (one_fault _ _) ?_)
  intro w6 hs6 hk6 hB6
  rw [splice_whole (by rfl)] at hB6
  have hk36 : Keep [] w3 w6 := (hk4.tr hk5).trB hk6 (by have := hk4.size; omega)
  have hown6 := hown3.keep hk36 (by simp)
  have hA6 := hk36.blk hA3 (by simp)
  have hk06 := hk03.tr hk36
  (repeat (first | refine pl_pure hT rfl rfl rfl ?_ | refine pl_nil ?_ | refine rn_seq ?_ | refine rn_plain ?_ | refine rn_block ?_ | refine rn_inBlock ?_ | refine rn_skip ?_ | refine rn_true rfl ?_ | refine rn_false rfl ?_ | refine rn_exit rfl ?_ | refine pl_not rfl rfl ?_))
  refine pl_op rfl rfl (opTo_call (fst := []) (cap := []) rfl rfl rfl rfl (by decide +kernel) ((scan_ret [48, 53] (by decide) (hw.keep hk06)).mono ?_))
  rintro x w7 ⟨v7, rfl, _, hk7⟩
  rw [f2]
  (repeat (first | refine pl_pure hT rfl rfl rfl ?_ | refine pl_nil ?_ | refine rn_seq ?_ | refine rn_plain ?_ | refine rn_block ?_ | refine rn_inBlock ?_ | refine rn_skip ?_ | refine rn_true rfl ?_ | refine rn_false rfl ?_ | refine rn_exit rfl ?_ | refine pl_not rfl rfl ?_))
  refine pl_op rfl rfl (opTo_allocN _ rfl zero_fault ?_)
  intro w8 c hc hs8 hk8 hC8
  (repeat (first | refine pl_pure hT rfl rfl rfl ?_ | refine pl_nil ?_ | refine rn_seq ?_ | refine rn_plain ?_ | refine rn_block ?_ | refine rn_inBlock ?_ | refine rn_skip ?_ | refine rn_true rfl ?_ | refine rn_false rfl ?_ | refine rn_exit rfl ?_ | refine pl_not rfl rfl ?_))
  refine pl_op rfl rfl (opTo_storeN [.int .i64 7, .int .i64 0] rfl rfl rfl rfl size_fault hC8 (by simp) (one_fault _ _) ?_)
  intro w9 hs9 hk9 hC9
  rw [splice_whole (by rfl)] at hC9
  have hk69 : Keep [] w6 w9 := (hk7.tr hk8).trB hk9 (by have := hk7.size; omega)
  have hown9 := hown6.keep hk69 (by simp)
  have hA9 := hk69.blk hA6 (by simp)
  have hB9 := hk69.blk hB6 (by simp)
  have hk09 := hk06.tr hk69
  obtain ⟨g, cap, rfl, hr⟩ := hown9.range (q := 8) (cs := tokC 5 [45, 53] true (-5)) (by rfl) (by decide)
  (repeat (first | refine pl_pure hT rfl rfl rfl ?_ | refine pl_nil ?_ | refine rn_seq ?_ | refine rn_plain ?_ | refine rn_block ?_ | refine rn_inBlock ?_ | refine rn_skip ?_ | refine rn_true rfl ?_ | refine rn_false rfl ?_ | refine rn_exit rfl ?_ | refine pl_not rfl rfl ?_))
  have hl4 : ts0.length = 4 := rfl
  refine pl_val _ rfl rfl (val_load1 hT rfl rfl rfl (hA9.cell rfl)) ?_
  refine pl_yes rfl rfl rfl rfl rfl (by first | (simp only [cmpP]; omega) | (simp [cmpP]; done) | (simp [cmpP]; omega)) ?_
  (repeat (first | refine pl_pure hT rfl rfl rfl ?_ | refine pl_nil ?_ | refine rn_seq ?_ | refine rn_plain ?_ | refine rn_block ?_ | refine rn_inBlock ?_ | refine rn_skip ?_ | refine rn_true rfl ?_ | refine rn_false rfl ?_ | refine rn_exit rfl ?_ | refine pl_not rfl rfl ?_))
  refine pl_yes rfl rfl rfl rfl rfl (by first | (simp only [cmpP]; omega) | (simp [cmpP]; done) | (simp [cmpP]; omega)) ?_
  (repeat (first | refine pl_pure hT rfl rfl rfl ?_ | refine pl_nil ?_ | refine rn_seq ?_ | refine rn_plain ?_ | refine rn_block ?_ | refine rn_inBlock ?_ | refine rn_skip ?_ | refine rn_true rfl ?_ | refine rn_false rfl ?_ | refine rn_exit rfl ?_ | refine pl_not rfl rfl ?_))
  refine pl_val _ rfl rfl (val_index 2 hT rfl rfl rfl rfl rfl (by decide) w9) ?_
  (repeat (first | refine pl_pure hT rfl rfl rfl ?_ | refine pl_nil ?_ | refine rn_seq ?_ | refine rn_plain ?_ | refine rn_block ?_ | refine rn_inBlock ?_ | refine rn_skip ?_ | refine rn_true rfl ?_ | refine rn_false rfl ?_ | refine rn_exit rfl ?_ | refine pl_not rfl rfl ?_))
  refine pl_val _ rfl rfl (val_load1 hT rfl rfl rfl (hr 2 _ rfl)) ?_
  (repeat (first | refine pl_pure hT rfl rfl rfl ?_ | refine pl_nil ?_ | refine rn_seq ?_ | refine rn_plain ?_ | refine rn_block ?_ | refine rn_inBlock ?_ | refine rn_skip ?_ | refine rn_true rfl ?_ | refine rn_false rfl ?_ | refine rn_exit rfl ?_ | refine pl_not rfl rfl ?_))
  refine pl_val _ rfl rfl (val_index 2 hT rfl rfl rfl rfl rfl (by decide) w9) ?_
  (repeat (first | refine pl_pure hT rfl rfl rfl ?_ | refine pl_nil ?_ | refine rn_seq ?_ | refine rn_plain ?_ | refine rn_block ?_ | refine rn_inBlock ?_ | refine rn_skip ?_ | refine rn_true rfl ?_ | refine rn_false rfl ?_ | refine rn_exit rfl ?_ | refine pl_not rfl rfl ?_))
  refine pl_val _ rfl rfl (val_load1 hT rfl rfl rfl (hr 3 _ rfl)) ?_
  refine pl_yes rfl rfl rfl rfl rfl (by first | (simp only [cmpP]; omega) | (simp [cmpP]; done) | (simp [cmpP]; omega)) ?_
  (repeat (first | refine pl_pure hT rfl rfl rfl ?_ | refine pl_nil ?_ | refine rn_seq ?_ | refine rn_plain ?_ | refine rn_block ?_ | refine rn_inBlock ?_ | refine rn_skip ?_ | refine rn_true rfl ?_ | refine rn_false rfl ?_ | refine rn_exit rfl ?_ | refine pl_not rfl rfl ?_))
  refine pl_val _ rfl rfl (val_load1 hT rfl rfl rfl (hB9.cell rfl)) ?_
  refine pl_yes rfl rfl rfl rfl rfl (by first | (simp only [cmpP]; omega) | (simp [cmpP]; done) | (simp [cmpP]; omega)) ?_
  (repeat (first | refine pl_pure hT rfl rfl rfl ?_ | refine pl_nil ?_ | refine rn_seq ?_ | refine rn_plain ?_ | refine rn_block ?_ | refine rn_inBlock ?_ | refine rn_skip ?_ | refine rn_true rfl ?_ | refine rn_false rfl ?_ | refine rn_exit rfl ?_ | refine pl_not rfl rfl ?_))
  refine pl_val _ rfl rfl (val_load1 hT rfl rfl rfl (hC9.cell rfl)) ?_
  refine pl_yes rfl rfl rfl rfl rfl (by first | (simp only [cmpP]; omega) | (simp [cmpP]; done) | (simp [cmpP]; omega)) ?_
  (repeat (first | refine pl_pure hT rfl rfl rfl ?_ | refine pl_nil ?_ | refine rn_seq ?_ | refine rn_plain ?_ | refine rn_block ?_ | refine rn_inBlock ?_ | refine rn_skip ?_ | refine rn_true rfl ?_ | refine rn_false rfl ?_ | refine rn_exit rfl ?_ | refine pl_not rfl rfl ?_))
  exact rn_ret Tryd.func5 (.inl ⟨_, rfl, rfl⟩) ⟨rfl, hk09⟩
end E
end Go.Proofs.YthidfgolcibcoacDoor
