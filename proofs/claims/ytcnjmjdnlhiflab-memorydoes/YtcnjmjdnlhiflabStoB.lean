/- The contracts of store.find, Open, Gen, Read. -/
import Derived.Test.YtcnjmjdnlhiflabStoA
namespace Go.Proofs.Ytcnjmjdnlhiflab
set_option maxRecDepth 20000
namespace E
open Go.Proofs

theorem zero_state : ((Try.prog.info? 82).bind (·.zero)).map (·.cells) = some (ints (List.replicate 17 0)).toArray := by kernel_rfl
theorem built_state (g : Int) : Try.prog.built 82 [(0, Value.int .i64 g)] = some (ints (g :: List.replicate 16 0)).toArray := by kernel_rfl

def pgAt (S : List Int) (t0 t1 : Int) : Nat → List Int
  | 0 => List.replicate 14 0
  | 1 => heldS S t0 ++ List.replicate 6 0
  | _ => (heldS S t0 ++ heldS S t1).take 14

theorem pgAt_length {S : List Int} (hS : S.length = 272) (t0 t1 : Int) (j : Nat) : (pgAt S t0 t1 j).length = 14 := by
  unfold pgAt
  split <;> simp [heldS_length hS]

theorem arrT : arrInt Try.prog 79 2 = true := by decide +kernel
theorem arrP : arrInt Try.prog 80 14 = true := by decide +kernel

theorem rangeAt_take {w : World} {b i : Nat} {cs ds : List Value} (h : w.rangeAt b i cs) (hd : ds = cs.take ds.length) : w.rangeAt b i ds := fun j u hu => h j u (by
  rw [hd, List.getElem?_take] at hu
  split at hu
  · exact hu
  · cases hu)

theorem find_ret {B : Nat} {w : World} {g cap : Nat} {S : List Int} (ho : w.ownsRow B 37 8 (.slice (some ⟨g, 0, none⟩) 34 cap) 34 (ints S)) (hS : S.length = 272) (hcap : 2 ≤ cap) :
    Ret Try.prog 39 [.slice (some ⟨g, 0, none⟩) 34 cap] w fun v w' => v = .agg (ints (stS S)).toArray ∧ Keep [] w w' := by
  refine ret_of 48 Try.func39 rfl rfl (by simp) ?_
  repeat (first | refine pl_pure hT rfl rfl rfl ?_ | refine pl_nil ?_ | refine rn_seq ?_ | refine rn_plain ?_ | refine rn_block ?_ | refine rn_inBlock ?_ | refine rn_skip ?_ | refine rn_true rfl ?_ | refine rn_false rfl ?_ | refine rn_exit rfl ?_ | refine pl_not rfl rfl ?_)
  refine pl_op rfl rfl (opTo_alloc _ rfl zero_state ?_)
  repeat (first | refine pl_pure hT rfl rfl rfl ?_ | refine pl_nil ?_ | refine rn_seq ?_ | refine rn_plain ?_ | refine rn_block ?_ | refine rn_inBlock ?_ | refine rn_skip ?_ | refine rn_true rfl ?_ | refine rn_false rfl ?_ | refine rn_exit rfl ?_ | refine pl_not rfl rfl ?_)
  refine pl_op rfl rfl (opTo_alloc _ rfl zero_words ?_)
  rw [World.size_alloc]
  have hk1 : Keep [] w ((w.alloc (.cells (ints (List.replicate 17 0)).toArray 82)).alloc (.cells (ints (List.replicate 8 0)).toArray 37)) := ((Keep.refl _ _).alloc _).alloc _
  have hres : Blk ((w.alloc (.cells (ints (List.replicate 17 0)).toArray 82)).alloc (.cells (ints (List.replicate 8 0)).toArray 37)) w.heap.size (ints (List.replicate 17 0)) 82 := (Blk.new _ _ _).alloc _
  have hlast : Blk ((w.alloc (.cells (ints (List.replicate 17 0)).toArray 82)).alloc (.cells (ints (List.replicate 8 0)).toArray 37)) (w.heap.size + 1) (ints (List.replicate 8 0)) 37 := by
    have := Blk.new (w.alloc (.cells (ints (List.replicate 17 0)).toArray 82)) (ints (List.replicate 8 0)) 37
    rwa [World.size_alloc] at this
  generalize ((w.alloc (.cells (ints (List.replicate 17 0)).toArray 82)).alloc (.cells (ints (List.replicate 8 0)).toArray 37)) = w1 at *
  have hg : g < w.heap.size := (ho.lt g rfl).2
  repeat (first | refine pl_pure hT rfl rfl rfl ?_ | refine pl_nil ?_ | refine rn_seq ?_ | refine rn_plain ?_ | refine rn_block ?_ | refine rn_inBlock ?_ | refine rn_skip ?_ | refine rn_true rfl ?_ | refine rn_false rfl ?_ | refine rn_exit rfl ?_ | refine pl_not rfl rfl ?_)
  refine pl_val _ rfl rfl (val_sliceTo 2 hT rfl rfl rfl rfl rfl hcap w1) ?_
  repeat (first | refine pl_pure hT rfl rfl rfl ?_ | refine pl_nil ?_ | refine rn_seq ?_ | refine rn_plain ?_ | refine rn_block ?_ | refine rn_inBlock ?_ | refine rn_skip ?_ | refine rn_true rfl ?_ | refine rn_false rfl ?_ | refine rn_exit rfl ?_ | refine pl_not rfl rfl ?_)
  refine rn_ind (fun m σ w' => ∃ j, m = 2 - j ∧ j ≤ 2 ∧ σ = [(0, .slice (some ⟨g, 0, none⟩) 34 cap), (2, .pointer (some ⟨w.heap.size, 0, none⟩)), (3, .pointer (some ⟨w.heap.size + 1, 0, none⟩)), (11, .slice (some ⟨g, 0, none⟩) 2 cap), (12, .int .i64 2), (13, .int .i64 (j : Nat))] ∧
      Keep [] w w' ∧ Blk w' w.heap.size (ints (List.replicate 17 0)) 82 ∧ Blk w' (w.heap.size + 1) (ints (rootMax S j)) 37)
    (2 - 0) _ ?_ ⟨0, rfl, by decide, rfl, hk1, hres, hlast⟩ ?_
  · exact ⟨rfl, rfl, rfl, rfl, rfl, rfl, trivial⟩
  clear hk1 hres hlast
  rintro m σ w2 ih ⟨j, hm, hj, rfl, hk2, hres, hlast⟩
  repeat (first | refine pl_pure hT rfl rfl rfl ?_ | refine pl_nil ?_ | refine rn_seq ?_ | refine rn_plain ?_ | refine rn_block ?_ | refine rn_inBlock ?_ | refine rn_skip ?_ | refine rn_true rfl ?_ | refine rn_false rfl ?_ | refine rn_exit rfl ?_ | refine pl_not rfl rfl ?_)
  rcases Nat.lt_or_ge j 2 with hlt | hge
  · refine pl_val (.bool true) rfl rfl (val_int .i64 _ _ _ rfl rfl rfl (by simp [intOp]; omega) w2) ?_
    repeat (first | refine pl_pure hT rfl rfl rfl ?_ | refine pl_nil ?_ | refine rn_seq ?_ | refine rn_plain ?_ | refine rn_block ?_ | refine rn_inBlock ?_ | refine rn_skip ?_ | refine rn_true rfl ?_ | refine rn_false rfl ?_ | refine rn_exit rfl ?_ | refine pl_not rfl rfl ?_)
    have h8 : (sector S j).length = 8 := sector_length hS (by omega)
    have hm8 : (rootMax S j).length = 8 := rootMax_length hS j (by omega)
    refine pl_val _ rfl rfl (val_index j hT rfl rfl rfl rfl rfl hlt w2) ?_
    refine pl_val (.agg (ints (sector S j)).toArray) rfl rfl (val_load _ hT rfl rfl (by rw [ints_length, h8]; rfl) (sure_at (hk2.owns ho (by simp)) hS (by omega))) ?_
    refine pl_op rfl rfl (opTo_alloc _ rfl zero_words ?_)
    have hk3 : Keep [] w (w2.alloc (.cells (ints (List.replicate 8 0)).toArray 37)) := hk2.alloc _
    have hx3 := Blk.new w2 (ints (List.replicate 8 0)) 37
    have hres3 := hres.alloc (.cells (ints (List.replicate 8 0)).toArray 37)
    have hlast3 := hlast.alloc (.cells (ints (List.replicate 8 0)).toArray 37)
    have hsz := hk2.size
    generalize (w2.alloc (.cells (ints (List.replicate 8 0)).toArray 37)) = w3 at *
    repeat (first | refine pl_pure hT rfl rfl rfl ?_ | refine pl_nil ?_ | refine rn_seq ?_ | refine rn_plain ?_ | refine rn_block ?_ | refine rn_inBlock ?_ | refine rn_skip ?_ | refine rn_true rfl ?_ | refine rn_false rfl ?_ | refine rn_exit rfl ?_ | refine pl_not rfl rfl ?_)
    refine pl_op rfl rfl (opTo_store _ rfl rfl rfl rfl (by rw [ints_length, h8]; decide +kernel) hx3 (by rw [ints_length, h8]; decide) (ints_one _) ?_)
    rw [splice_all (by rw [ints_length, h8]; rfl)]
    have hk4 := hk3.setRow w2.heap.size (ints (sector S j)).toArray (.inr hsz)
    have hx4 := hx3.set (ints (sector S j))
    have hres4 := hres3.other (ints (sector S j)).toArray (c := w2.heap.size) (by have := hres.lt; omega)
    have hlast4 := hlast3.other (ints (sector S j)).toArray (c := w2.heap.size) (by have := hlast.lt; omega)
    have hnx : w.heap.size + 1 ≠ w2.heap.size := by have := hlast.lt; omega
    generalize (w3.setRow w2.heap.size (ints (sector S j)).toArray) = w4 at *
    repeat (first | refine pl_pure hT rfl rfl rfl ?_ | refine pl_nil ?_ | refine rn_seq ?_ | refine rn_plain ?_ | refine rn_block ?_ | refine rn_inBlock ?_ | refine rn_skip ?_ | refine rn_true rfl ?_ | refine rn_false rfl ?_ | refine rn_exit rfl ?_ | refine pl_not rfl rfl ?_)
    refine pl_val _ rfl rfl (val_indexArr 0 hT rfl rfl rfl rfl rfl (by decide) w4) ?_
    refine pl_val (.int .i64 (hd (sector S j))) rfl rfl (val_load1 hT rfl rfl rfl (hx4.cell (by obtain ⟨a, b, c, d, e, f, g, i, h⟩ := list8 h8; rw [h]; rfl))) ?_
    refine pl_val _ rfl rfl (val_indexArr 0 hT rfl rfl rfl rfl rfl (by decide) w4) ?_
    refine pl_val (.int .i64 (hd (rootMax S j))) rfl rfl (val_load1 hT rfl rfl rfl (hlast4.cell (by obtain ⟨a, b, c, d, e, f, g, i, h⟩ := list8 hm8; rw [h]; rfl))) ?_
    by_cases hgt : hd (sector S j) > hd (rootMax S j)
    · refine pl_val (.bool true) rfl rfl (val_int .i64 _ _ _ rfl rfl rfl (by simp only [intOp, hgt, decide_true]) w4) ?_
      repeat (first | refine pl_pure hT rfl rfl rfl ?_ | refine pl_nil ?_ | refine rn_seq ?_ | refine rn_plain ?_ | refine rn_block ?_ | refine rn_inBlock ?_ | refine rn_skip ?_ | refine rn_true rfl ?_ | refine rn_false rfl ?_ | refine rn_exit rfl ?_ | refine pl_not rfl rfl ?_)
      refine pl_val (.agg (ints (sector S j)).toArray) rfl rfl (val_load _ hT rfl rfl (by rw [ints_length, h8]; rfl) (hx4.range (by simp))) ?_
      refine pl_op rfl rfl (opTo_store _ rfl rfl rfl rfl (by rw [ints_length, h8]; decide +kernel) hlast4 (by rw [ints_length, ints_length, h8, hm8]; decide) (ints_one _) ?_)
      rw [splice_all (by rw [ints_length, h8, ints_length, hm8])]
      have hk5 := hk4.setRow (w.heap.size + 1) (ints (sector S j)).toArray (.inr (by omega))
      have hlast5 := hlast4.set (ints (sector S j))
      have hres5 := hres4.other (ints (sector S j)).toArray (c := w.heap.size + 1) (by omega)
      generalize (w4.setRow (w.heap.size + 1) (ints (sector S j)).toArray) = w5 at *
      repeat (first | refine pl_pure hT rfl rfl rfl ?_ | refine pl_nil ?_ | refine rn_seq ?_ | refine rn_plain ?_ | refine rn_block ?_ | refine rn_inBlock ?_ | refine rn_skip ?_ | refine rn_true rfl ?_ | refine rn_false rfl ?_ | refine rn_exit rfl ?_ | refine pl_not rfl rfl ?_)
      refine pl_val (.int .i64 ((j + 1 : Nat) : Int)) rfl rfl (val_int .i64 j 1 _ rfl rfl rfl (by simp only [intOp]; rw [wrap_i64 (by omega) (by omega)]; rfl) w5) ?_
      repeat (first | refine pl_pure hT rfl rfl rfl ?_ | refine pl_nil ?_ | refine rn_seq ?_ | refine rn_plain ?_ | refine rn_block ?_ | refine rn_inBlock ?_ | refine rn_skip ?_ | refine rn_true rfl ?_ | refine rn_false rfl ?_ | refine rn_exit rfl ?_ | refine pl_not rfl rfl ?_)
      refine rn_sub ?_ (ih (2 - (j + 1)) _ w5 (by omega) ⟨j + 1, rfl, hlt, rfl, hk5, hres5, by rw [rootMax, if_pos hgt]; exact hlast5⟩)
      exact ⟨rfl, rfl, rfl, rfl, rfl, rfl, trivial⟩
    · refine pl_val (.bool false) rfl rfl (val_int .i64 _ _ _ rfl rfl rfl (by simp only [intOp, hgt, decide_false]) w4) ?_
      repeat (first | refine pl_pure hT rfl rfl rfl ?_ | refine pl_nil ?_ | refine rn_seq ?_ | refine rn_plain ?_ | refine rn_block ?_ | refine rn_inBlock ?_ | refine rn_skip ?_ | refine rn_true rfl ?_ | refine rn_false rfl ?_ | refine rn_exit rfl ?_ | refine pl_not rfl rfl ?_)
      refine pl_val (.int .i64 ((j + 1 : Nat) : Int)) rfl rfl (val_int .i64 j 1 _ rfl rfl rfl (by simp only [intOp]; rw [wrap_i64 (by omega) (by omega)]; rfl) w4) ?_
      repeat (first | refine pl_pure hT rfl rfl rfl ?_ | refine pl_nil ?_ | refine rn_seq ?_ | refine rn_plain ?_ | refine rn_block ?_ | refine rn_inBlock ?_ | refine rn_skip ?_ | refine rn_true rfl ?_ | refine rn_false rfl ?_ | refine rn_exit rfl ?_ | refine pl_not rfl rfl ?_)
      refine rn_sub ?_ (ih (2 - (j + 1)) _ w4 (by omega) ⟨j + 1, rfl, hlt, rfl, hk4, hres4, by rw [rootMax, if_neg hgt]; exact hlast4⟩)
      exact ⟨rfl, rfl, rfl, rfl, rfl, rfl, trivial⟩
  have hjj : j = 2 := by omega
  subst hjj
  clear ih
  refine pl_val (.bool false) rfl rfl (val_int .i64 _ _ _ rfl rfl rfl (by simp [intOp]) w2) ?_
  repeat (first | refine pl_pure hT rfl rfl rfl ?_ | refine pl_nil ?_ | refine rn_seq ?_ | refine rn_plain ?_ | refine rn_block ?_ | refine rn_inBlock ?_ | refine rn_skip ?_ | refine rn_true rfl ?_ | refine rn_false rfl ?_ | refine rn_exit rfl ?_ | refine pl_not rfl rfl ?_)
  have hl8 := lastRoot_length hS
  replace hlast : Blk w2 (w.heap.size + 1) (ints (lastRoot S)) 37 := hlast
  have hst : stS S = genS S :: (tabS S ++ pgS S) := rfl
  have hpg : pgS S = pgAt S ((tabS S).getD 0 0) ((tabS S).getD 1 0) 2 := rfl
  have hgen : genS S = hd (lastRoot S) := rfl
  have htab : tabS S = ((lastRoot S).drop 1).take 2 := rfl
  rw [hst, hpg, hgen, htab]
  generalize lastRoot S = R at *
  obtain ⟨a0, a1, a2, a3, a4, a5, a6, a7, rfl⟩ := list8 hl8
  clear hst hpg hgen htab hl8
  have hsz := hk2.size
  refine pl_val _ rfl rfl (val_indexArr 0 hT rfl rfl rfl rfl rfl (by decide) w2) ?_
  refine pl_val (.int .i64 a0) rfl rfl (val_load1 hT rfl rfl rfl (hlast.cell rfl)) ?_
  refine pl_val _ rfl rfl (val_build _ rfl rfl (built_state a0) w2) ?_
  refine pl_op rfl rfl (opTo_alloc _ rfl zero_state ?_)
  have hk3 : Keep [] w (w2.alloc (.cells (ints (List.replicate 17 0)).toArray 82)) := hk2.alloc _
  have hx3 := Blk.new w2 (ints (List.replicate 17 0)) 82
  have hres3 := hres.alloc (.cells (ints (List.replicate 17 0)).toArray 82)
  have hlast3 := hlast.alloc (.cells (ints (List.replicate 17 0)).toArray 82)
  have hx1 : w.heap.size ≠ w2.heap.size := by have := hres.lt; omega
  have hx2 : w.heap.size + 1 ≠ w2.heap.size := by have := hlast.lt; omega
  generalize (w2.alloc (.cells (ints (List.replicate 17 0)).toArray 82)) = w3 at *
  repeat (first | refine pl_pure hT rfl rfl rfl ?_ | refine pl_nil ?_ | refine rn_seq ?_ | refine rn_plain ?_ | refine rn_block ?_ | refine rn_inBlock ?_ | refine rn_skip ?_ | refine rn_true rfl ?_ | refine rn_false rfl ?_ | refine rn_exit rfl ?_ | refine pl_not rfl rfl ?_)
  refine pl_op rfl rfl (opTo_store _ rfl rfl rfl rfl (by kernel_rfl) hx3 (by simp [ints]) (ints_one _) ?_)
  rw [splice_all (show (ints (a0 :: List.replicate 16 0)).length = (ints (List.replicate 17 0)).length from rfl)]
  have hk4 := hk3.setRow w2.heap.size (ints (a0 :: List.replicate 16 0)).toArray (.inr hsz)
  have hx4 := hx3.set (ints (a0 :: List.replicate 16 0))
  have hres4 := hres3.other (ints (a0 :: List.replicate 16 0)).toArray hx1
  have hlast4 := hlast3.other (ints (a0 :: List.replicate 16 0)).toArray hx2
  generalize (w3.setRow w2.heap.size (ints (a0 :: List.replicate 16 0)).toArray) = w4 at *
  repeat (first | refine pl_pure hT rfl rfl rfl ?_ | refine pl_nil ?_ | refine rn_seq ?_ | refine rn_plain ?_ | refine rn_block ?_ | refine rn_inBlock ?_ | refine rn_skip ?_ | refine rn_true rfl ?_ | refine rn_false rfl ?_ | refine rn_exit rfl ?_ | refine pl_not rfl rfl ?_)
  refine rn_draw (fun _ => True) [] hMix ?_
  refine dr_pure 0 hT rfl (by decide +kernel) rfl rfl rfl ?_
  refine dr_any 1 _ rfl (by decide +kernel) rfl rfl (fun w' => val_sliceArr hT rfl rfl rfl w') ?_
  refine dr_any 2 _ rfl (by decide +kernel) rfl rfl (fun w' => val_sliceArrFrom 1 hT rfl rfl rfl rfl rfl (by decide) w') ?_
  refine dr_op 3 rfl (by decide +kernel) rfl rfl (opTo_copy (ints [a1, a2]) rfl rfl rfl (by decide +kernel) hx4.drew rfl (hlast4.drew.range rfl) (by simp [ints]) (ints_one _) fun r => ⟨fun _ => trivial, ?_⟩)
  refine dr_done (by decide +kernel) ?_
  have e1 : splice (ints (a0 :: List.replicate 16 0)) (0 + 1) (ints [a1, a2]) = ints (a0 :: a1 :: a2 :: pgAt S a1 a2 0) := rfl
  rw [e1]
  have hk5 := (hk4.drew).setRow w2.heap.size (ints (a0 :: a1 :: a2 :: pgAt S a1 a2 0)).toArray (.inr hsz)
  have hx5 := hx4.drew.set (ints (a0 :: a1 :: a2 :: pgAt S a1 a2 0))
  have hres5 := hres4.drew.other (ints (a0 :: a1 :: a2 :: pgAt S a1 a2 0)).toArray hx1
  clear hx4 hres4 hlast4 hk4 hk3 hx3 hres3 hlast3 hres hlast
  generalize (w4.drew.setRow w2.heap.size (ints (a0 :: a1 :: a2 :: pgAt S a1 a2 0)).toArray) = w5 at *
  generalize hx : w2.heap.size = x at *
  clear hk2 hx
  repeat (first | refine pl_pure hT rfl rfl rfl ?_ | refine pl_nil ?_ | refine rn_seq ?_ | refine rn_plain ?_ | refine rn_block ?_ | refine rn_inBlock ?_ | refine rn_skip ?_ | refine rn_true rfl ?_ | refine rn_false rfl ?_ | refine rn_exit rfl ?_ | refine pl_not rfl rfl ?_)
  refine pl_val (.agg (ints [a1, a2]).toArray) rfl rfl (val_load _ hT rfl rfl rfl (hx5.range rfl)) ?_
  repeat (first | refine pl_pure hT rfl rfl rfl ?_ | refine pl_nil ?_ | refine rn_seq ?_ | refine rn_plain ?_ | refine rn_block ?_ | refine rn_inBlock ?_ | refine rn_skip ?_ | refine rn_true rfl ?_ | refine rn_false rfl ?_ | refine rn_exit rfl ?_ | refine pl_not rfl rfl ?_)
  refine rn_ind (fun m σ w' => ∃ j, m = 2 - j ∧ j ≤ 2 ∧ σ = [(0, .slice (some ⟨g, 0, none⟩) 34 cap), (2, .pointer (some ⟨w.heap.size, 0, none⟩)), (6, .pointer (some ⟨x, 0, none⟩)), (32, .agg (ints [a1, a2]).toArray), (33, .int .i64 (j : Nat))] ∧
      Keep [] w w' ∧ Blk w' w.heap.size (ints (List.replicate 17 0)) 82 ∧ Blk w' x (ints (a0 :: a1 :: a2 :: pgAt S a1 a2 j)) 82)
    (2 - 0) _ ?_ ⟨0, rfl, by decide, rfl, hk5, hres5, hx5⟩ ?_
  · exact ⟨rfl, rfl, rfl, rfl, rfl, trivial⟩
  clear hk5 hres5 hx5
  rintro m σ w6 ih ⟨j, hm, hj, rfl, hk6, hres, hx6⟩
  repeat (first | refine pl_pure hT rfl rfl rfl ?_ | refine pl_nil ?_ | refine rn_seq ?_ | refine rn_plain ?_ | refine rn_block ?_ | refine rn_inBlock ?_ | refine rn_skip ?_ | refine rn_true rfl ?_ | refine rn_false rfl ?_ | refine rn_exit rfl ?_ | refine pl_not rfl rfl ?_)
  rcases Nat.lt_or_ge j 2 with hlt | hge
  · refine pl_val (.bool true) rfl rfl (val_int .i64 _ _ _ rfl rfl rfl (by simp [intOp]; omega) w6) ?_
    repeat (first | refine pl_pure hT rfl rfl rfl ?_ | refine pl_nil ?_ | refine rn_seq ?_ | refine rn_plain ?_ | refine rn_block ?_ | refine rn_inBlock ?_ | refine rn_skip ?_ | refine rn_true rfl ?_ | refine rn_false rfl ?_ | refine rn_exit rfl ?_ | refine pl_not rfl rfl ?_)
    obtain ⟨t, ht⟩ : ∃ t, [a1, a2][j]? = some t := ⟨_, List.getElem?_eq_getElem (by simpa using hlt)⟩
    refine pl_val (.int .i64 t) rfl rfl (val_at [a1, a2] j arrT rfl rfl rfl rfl hlt ht w6) ?_
    repeat (first | refine pl_pure hT rfl rfl rfl ?_ | refine pl_nil ?_ | refine rn_seq ?_ | refine rn_plain ?_ | refine rn_block ?_ | refine rn_inBlock ?_ | refine rn_skip ?_ | refine rn_true rfl ?_ | refine rn_false rfl ?_ | refine rn_exit rfl ?_ | refine pl_not rfl rfl ?_)
    refine pl_op rfl rfl (opTo_call rfl rfl rfl rfl (by decide +kernel) ((held_ret (hk6.owns ho (by simp)) hS t).mono ?_))
    rintro v w7 ⟨rfl, hk7⟩
    have h8 := heldS_length hS t
    refine pl_op rfl rfl (opTo_alloc _ rfl zero_words ?_)
    have hkw7 := hk6.tr0 hk7
    have hk8 : Keep [] w (w7.alloc (.cells (ints (List.replicate 8 0)).toArray 37)) := hkw7.alloc _
    have hy8 := Blk.new w7 (ints (List.replicate 8 0)) 37
    have hres7 := hk7.blk hres (by simp)
    have hx7 := hk7.blk hx6 (by simp)
    have hres8 := hres7.alloc (.cells (ints (List.replicate 8 0)).toArray 37)
    have hx8 := hx7.alloc (.cells (ints (List.replicate 8 0)).toArray 37)
    have hn1 : w.heap.size ≠ w7.heap.size := by have := hres7.lt; omega
    have hn2 : x ≠ w7.heap.size := by have := hx7.lt; omega
    have hn3 := hkw7.size
    generalize (w7.alloc (.cells (ints (List.replicate 8 0)).toArray 37)) = w8 at *
    repeat (first | refine pl_pure hT rfl rfl rfl ?_ | refine pl_nil ?_ | refine rn_seq ?_ | refine rn_plain ?_ | refine rn_block ?_ | refine rn_inBlock ?_ | refine rn_skip ?_ | refine rn_true rfl ?_ | refine rn_false rfl ?_ | refine rn_exit rfl ?_ | refine pl_not rfl rfl ?_)
    refine pl_op rfl rfl (opTo_store _ rfl rfl rfl rfl (by rw [ints_length, h8]; decide +kernel) hy8 (by rw [ints_length, h8]; decide) (ints_one _) ?_)
    rw [splice_all (by rw [ints_length, h8]; rfl)]
    have hk9 := hk8.setRow w7.heap.size (ints (heldS S t)).toArray (.inr hn3)
    have hy9 := hy8.set (ints (heldS S t))
    have hres9 := hres8.other (ints (heldS S t)).toArray hn1
    have hx9 := hx8.other (ints (heldS S t)).toArray hn2
    generalize (w8.setRow w7.heap.size (ints (heldS S t)).toArray) = w9 at *
    repeat (first | refine pl_pure hT rfl rfl rfl ?_ | refine pl_nil ?_ | refine rn_seq ?_ | refine rn_plain ?_ | refine rn_block ?_ | refine rn_inBlock ?_ | refine rn_skip ?_ | refine rn_true rfl ?_ | refine rn_false rfl ?_ | refine rn_exit rfl ?_ | refine pl_not rfl rfl ?_)
    refine rn_draw (fun _ => True) [] hMix ?_
    refine dr_pure 0 hT rfl (by decide +kernel) rfl rfl rfl ?_
    refine dr_pure 1 hT rfl (by decide +kernel) rfl rfl rfl ?_
    refine dr_any 2 (.int .i64 ((j * 8 : Nat) : Int)) rfl (by decide +kernel) rfl rfl (fun w' => val_int .i64 j 8 _ rfl rfl rfl (by simp only [intOp]; rw [wrap_i64 (by omega) (by omega)]; simp) w') ?_
    refine dr_any 3 _ rfl (by decide +kernel) rfl rfl (fun w' => val_sliceArrFrom (j * 8) hT rfl rfl rfl rfl rfl (by omega) w') ?_
    refine dr_any 4 _ rfl (by decide +kernel) rfl rfl (fun w' => val_sliceArr hT rfl rfl rfl w') ?_
    have hcl : ((heldS S t).take (Nat.min 8 (14 - j * 8))).length = Nat.min 8 (14 - j * 8) := by rw [List.length_take, h8]; exact Nat.min_eq_left (Nat.min_le_left _ _)
    have hle : Nat.min 8 (14 - j * 8) ≤ 14 - j * 8 := Nat.min_le_right _ _
    refine dr_op 5 rfl (by decide +kernel) rfl rfl (opTo_copy (ints ((heldS S t).take (Nat.min 8 (14 - j * 8)))) rfl rfl rfl (by decide +kernel) hx9.drew (by rw [ints_length, hcl]) (rangeAt_take (hy9.drew.range (cs := ints (heldS S t)) (by simp)) (by rw [ints_length, hcl]; simp [ints, List.map_take])) (by rw [ints_length, hcl, ints_length]; simp [pgAt_length hS]; omega) (ints_one _) fun r => ⟨fun _ => trivial, ?_⟩)
    refine dr_done (by decide +kernel) ?_
    have e2 : splice (ints (a0 :: a1 :: a2 :: pgAt S a1 a2 j)) (0 + 3 + j * 8 * 1) (ints ((heldS S t).take (Nat.min 8 (14 - j * 8)))) = ints (a0 :: a1 :: a2 :: pgAt S a1 a2 (j + 1)) := by
      have hj2 : j = 0 ∨ j = 1 := by omega
      rcases hj2 with rfl | rfl
      · simp at ht
        subst ht
        simp only [pgAt]
        obtain ⟨b0, b1, b2, b3, b4, b5, b6, b7, hb⟩ := list8 h8
        rw [hb]
        rfl
      · simp at ht
        subst ht
        simp only [pgAt]
        obtain ⟨b0, b1, b2, b3, b4, b5, b6, b7, hb⟩ := list8 h8
        obtain ⟨c0, c1, c2, c3, c4, c5, c6, c7, hc⟩ := list8 (heldS_length hS a1)
        rw [hb, hc]
        rfl
    rw [e2]
    have hk10 := (hk9.drew).setRow x (ints (a0 :: a1 :: a2 :: pgAt S a1 a2 (j + 1))).toArray (.inr hsz)
    have hx10 := hx9.drew.set (ints (a0 :: a1 :: a2 :: pgAt S a1 a2 (j + 1)))
    have hres10 := hres9.drew.other (ints (a0 :: a1 :: a2 :: pgAt S a1 a2 (j + 1))).toArray hx1
    generalize (w9.drew.setRow x (ints (a0 :: a1 :: a2 :: pgAt S a1 a2 (j + 1))).toArray) = w10 at *
    repeat (first | refine pl_pure hT rfl rfl rfl ?_ | refine pl_nil ?_ | refine rn_seq ?_ | refine rn_plain ?_ | refine rn_block ?_ | refine rn_inBlock ?_ | refine rn_skip ?_ | refine rn_true rfl ?_ | refine rn_false rfl ?_ | refine rn_exit rfl ?_ | refine pl_not rfl rfl ?_)
    refine pl_val (.int .i64 ((j + 1 : Nat) : Int)) rfl rfl (val_int .i64 j 1 _ rfl rfl rfl (by simp only [intOp]; rw [wrap_i64 (by omega) (by omega)]; rfl) w10) ?_
    repeat (first | refine pl_pure hT rfl rfl rfl ?_ | refine pl_nil ?_ | refine rn_seq ?_ | refine rn_plain ?_ | refine rn_block ?_ | refine rn_inBlock ?_ | refine rn_skip ?_ | refine rn_true rfl ?_ | refine rn_false rfl ?_ | refine rn_exit rfl ?_ | refine pl_not rfl rfl ?_)
    refine rn_sub ?_ (ih (2 - (j + 1)) _ w10 (by omega) ⟨j + 1, rfl, hlt, rfl, hk10, hres10, hx10⟩)
    exact ⟨rfl, rfl, rfl, rfl, rfl, trivial⟩
  have hjj : j = 2 := by omega
  subst hjj
  refine pl_val (.bool false) rfl rfl (val_int .i64 _ _ _ rfl rfl rfl (by simp [intOp]) w6) ?_
  repeat (first | refine pl_pure hT rfl rfl rfl ?_ | refine pl_nil ?_ | refine rn_seq ?_ | refine rn_plain ?_ | refine rn_block ?_ | refine rn_inBlock ?_ | refine rn_skip ?_ | refine rn_true rfl ?_ | refine rn_false rfl ?_ | refine rn_exit rfl ?_ | refine pl_not rfl rfl ?_)
  have h17 : (a0 :: a1 :: a2 :: pgAt S a1 a2 2).length = 17 := by simp [pgAt_length hS]
  refine pl_val (.agg (ints (a0 :: a1 :: a2 :: pgAt S a1 a2 2)).toArray) rfl rfl (val_load _ hT rfl rfl (by rw [ints_length, h17]; rfl) (hx6.range (by simp))) ?_
  refine pl_op rfl rfl (opTo_store (ints (a0 :: a1 :: a2 :: pgAt S a1 a2 2)) rfl rfl rfl rfl (by rw [ints_length, h17]; decide +kernel) hres (by rw [ints_length, h17]; decide) (ints_one _) ?_)
  rw [splice_all (by rw [ints_length, h17]; rfl)]
  repeat (first | refine pl_pure hT rfl rfl rfl ?_ | refine pl_nil ?_ | refine rn_seq ?_ | refine rn_plain ?_ | refine rn_block ?_ | refine rn_inBlock ?_ | refine rn_skip ?_ | refine rn_true rfl ?_ | refine rn_false rfl ?_ | refine rn_exit rfl ?_ | refine pl_not rfl rfl ?_)
  refine rn_ret Try.func39 (.inr (.inr (.inl ⟨_, _, _, rfl, rfl, loadVar_agg hT (cs := ints (a0 :: a1 :: a2 :: pgAt S a1 a2 2)) (by rw [ints_length, h17]; rfl) ((hres.set _).range (by simp))⟩))) ⟨?_, hk6.setRow _ _ (.inr (Nat.le_refl _))⟩
  rfl
end E
end Go.Proofs.Ytcnjmjdnlhiflab
