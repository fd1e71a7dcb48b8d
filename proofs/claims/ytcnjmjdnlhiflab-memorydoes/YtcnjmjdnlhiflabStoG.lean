/- The contracts of a state's words, of begin, of the deeds, and of do. -/
import Derived.Test.YtcnjmjdnlhiflabStoF
namespace Go.Proofs.Ytcnjmjdnlhiflab
set_option maxRecDepth 20000
namespace E
open Go.Proofs

def partW (N : List Int) (j : Nat) : List Int := (((N.drop (3 + j * 8)).take (14 - j * 8)) ++ z8).take 8
def rootW (N : List Int) : List Int := [N.getD 0 0, N.getD 1 0, N.getD 2 0, 0, 0, 0, 0, 0]

theorem list17 {l : List Int} (h : l.length = 17) : ∃ a b c d e f g i j k m n o p q r s, l = [a, b, c, d, e, f, g, i, j, k, m, n, o, p, q, r, s] := by
  match l, h with
  | [a, b, c, d, e, f, g, i, j, k, m, n, o, p, q, r, s], _ => exact ⟨a, b, c, d, e, f, g, i, j, k, m, n, o, p, q, r, s, rfl⟩

theorem partW_length {N : List Int} (_ : N.length = 17) (j : Nat) : (partW N j).length = 8 := by
  simp [partW, z8]

section
variable {B : Nat} {w : World} {c s : Nat} {N : List Int} {K : List Bool} {dv : Value} {fvs : List Value} {D : List Deed}

theorem partWords_ret (h : ComV B w c s N K dv fvs D) (j : Nat) (hj : j < 2) :
    Ret Try.prog 31 [.pointer (some ⟨c, 1, none⟩), .int .i64 (j : Nat)] w fun v w' => v = .agg (ints (partW N j)).toArray ∧ Keep [] w w' := by
  refine ret_of 15 Try.func31 rfl rfl (by simp) ?_
  repeat (first | refine pl_pure hT rfl rfl rfl ?_ | refine pl_nil ?_ | refine rn_seq ?_ | refine rn_plain ?_ | refine rn_block ?_ | refine rn_inBlock ?_ | refine rn_skip ?_ | refine rn_true rfl ?_ | refine rn_false rfl ?_ | refine rn_exit rfl ?_ | refine pl_not rfl rfl ?_)
  refine pl_op rfl rfl (opTo_alloc _ rfl zero_words ?_)
  repeat (first | refine pl_pure hT rfl rfl rfl ?_ | refine pl_nil ?_ | refine rn_seq ?_ | refine rn_plain ?_ | refine rn_block ?_ | refine rn_inBlock ?_ | refine rn_skip ?_ | refine rn_true rfl ?_ | refine rn_false rfl ?_ | refine rn_exit rfl ?_ | refine pl_not rfl rfl ?_)
  refine pl_op rfl rfl (opTo_alloc _ rfl zero_words ?_)
  rw [World.size_alloc]
  have hk1 : Keep [] w ((w.alloc (.cells (ints (List.replicate 8 0)).toArray 37)).alloc (.cells (ints (List.replicate 8 0)).toArray 37)) := ((Keep.refl _ _).alloc _).alloc _
  have hr1 := (Blk.new w (ints (List.replicate 8 0)) 37).alloc (.cells (ints (List.replicate 8 0)).toArray 37)
  have hx1 := Blk.new (w.alloc (.cells (ints (List.replicate 8 0)).toArray 37)) (ints (List.replicate 8 0)) 37
  rw [World.size_alloc] at hx1
  have h1 := h.keep0 hk1
  generalize ((w.alloc (.cells (ints (List.replicate 8 0)).toArray 37)).alloc (.cells (ints (List.replicate 8 0)).toArray 37)) = w1 at *
  repeat (first | refine pl_pure hT rfl rfl rfl ?_ | refine pl_nil ?_ | refine rn_seq ?_ | refine rn_plain ?_ | refine rn_block ?_ | refine rn_inBlock ?_ | refine rn_skip ?_ | refine rn_true rfl ?_ | refine rn_false rfl ?_ | refine rn_exit rfl ?_ | refine pl_not rfl rfl ?_)
  refine rn_draw (fun _ => True) [] hMix ?_
  refine dr_any 0 _ rfl (by decide +kernel) rfl rfl (fun w' => val_sliceArr hT rfl rfl rfl w') ?_
  refine dr_pure 1 hT rfl (by decide +kernel) rfl rfl rfl ?_
  refine dr_pure 2 hT rfl (by decide +kernel) rfl rfl rfl ?_
  refine dr_pure 3 hT rfl (by decide +kernel) rfl rfl rfl ?_
  refine dr_pure 4 hT rfl (by decide +kernel) rfl rfl rfl ?_
  refine dr_any 5 (.int .i64 ((j * 8 : Nat) : Int)) rfl (by decide +kernel) rfl rfl (fun w' => val_int .i64 j 8 _ rfl rfl rfl (by simp only [intOp]; rw [wrap_i64 (by omega) (by omega)]; simp) w') ?_
  refine dr_any 6 _ rfl (by decide +kernel) rfl rfl (fun w' => val_sliceArrFrom (j * 8) hT rfl rfl rfl rfl rfl (by omega) w') ?_
  have hn := h.nlen
  have hcl : (((N.drop (3 + j * 8)).take (14 - j * 8)).take 8).length = Nat.min (14 - j * 8) 8 := by
    rw [List.length_take, List.length_take, List.length_drop, hn]
    simp only [Nat.min_def]
    repeat' split
    all_goals omega
  refine dr_op 7 rfl (by decide +kernel) rfl rfl (opTo_copy (ints (((N.drop (3 + j * 8)).take (14 - j * 8)).take 8)) rfl rfl rfl (by decide +kernel) hx1.drew (by rw [ints_length, hcl]) ?_ (by rw [ints_length, hcl]; simp only [ints_length, List.length_replicate, Nat.zero_add]; exact Nat.min_le_right _ _) (ints_one _) fun r => ⟨fun _ => trivial, ?_⟩)
  · have := (h1.keep0 ((Keep.refl [] w1).drew)).rangeN (3 + j * 8) (14 - j * 8) (by omega)
    refine rangeAt_take (cs := ints ((N.drop (3 + j * 8)).take (14 - j * 8))) ?_ ?_
    · have e : 1 + (3 + j * 8) = 1 + 3 + j * 8 * 1 := by omega
      rw [← e]; exact this
    · rw [ints_length, hcl]
      simp only [ints, List.map_take]
      rw [List.take_take, List.take_take]
      apply List.take_eq_take_iff.2
      simp only [List.length_map, List.length_drop, hn]
      simp only [Nat.min_def]
      repeat' split
      all_goals omega
  refine dr_done (by decide +kernel) ?_
  have e : splice (ints (List.replicate 8 0)) 0 (ints (((N.drop (3 + j * 8)).take (14 - j * 8)).take 8)) = ints (partW N j) := by
    have hj2 : j = 0 ∨ j = 1 := by omega
    obtain ⟨a, b, c, d, e, f, g, i, j, k, m, n, o, p, q, r, s, rfl⟩ := list17 hn
    rcases hj2 with rfl | rfl <;> rfl
  rw [e]
  have h8 := partW_length hn j
  have hx2 := hx1.drew.set (ints (partW N j))
  have hr2 := hr1.drew.other (ints (partW N j)).toArray (c := w.heap.size + 1) (by omega)
  have hk2 := (hk1.drew).setRow (w.heap.size + 1) (ints (partW N j)).toArray (.inr (by omega))
  generalize (w1.drew.setRow (w.heap.size + 1) (ints (partW N j)).toArray) = w2 at *
  repeat (first | refine pl_pure hT rfl rfl rfl ?_ | refine pl_nil ?_ | refine rn_seq ?_ | refine rn_plain ?_ | refine rn_block ?_ | refine rn_inBlock ?_ | refine rn_skip ?_ | refine rn_true rfl ?_ | refine rn_false rfl ?_ | refine rn_exit rfl ?_ | refine pl_not rfl rfl ?_)
  refine pl_val (.agg (ints (partW N j)).toArray) rfl rfl (val_load _ hT rfl rfl (by rw [ints_length, h8]; rfl) (hx2.range (by simp))) ?_
  refine pl_op rfl rfl (opTo_store _ rfl rfl rfl rfl (by rw [ints_length, h8]; decide +kernel) hr2 (by rw [ints_length, h8]; decide) (ints_one _) ?_)
  rw [splice_all (by rw [ints_length, h8]; rfl)]
  repeat (first | refine pl_pure hT rfl rfl rfl ?_ | refine pl_nil ?_ | refine rn_seq ?_ | refine rn_plain ?_ | refine rn_block ?_ | refine rn_inBlock ?_ | refine rn_skip ?_ | refine rn_true rfl ?_ | refine rn_false rfl ?_ | refine rn_exit rfl ?_ | refine pl_not rfl rfl ?_)
  exact rn_ret Try.func31 (.inr (.inr (.inl ⟨_, _, _, rfl, rfl, loadVar_agg hT (cs := ints (partW N j)) (by rw [ints_length, h8]; rfl) ((hr2.set _).range (by simp))⟩))) ⟨rfl, hk2.setRow _ _ (.inr (Nat.le_refl _))⟩

theorem rootAt_ret (h : ComV B w c s N K dv fvs D) :
    Ret Try.prog 34 [.pointer (some ⟨c, 1, none⟩)] w fun v w' => v = .int .i64 ((N.getD 0 0).tmod 2) ∧ w' = w := by
  refine ret_of 8 Try.func34 rfl rfl (by simp) ?_
  repeat (first | refine pl_pure hT rfl rfl rfl ?_ | refine pl_nil ?_ | refine rn_seq ?_ | refine rn_plain ?_ | refine rn_block ?_ | refine rn_inBlock ?_ | refine rn_skip ?_ | refine rn_true rfl ?_ | refine rn_false rfl ?_ | refine rn_exit rfl ?_ | refine pl_not rfl rfl ?_)
  have hc := h.cellN (i := 0) (x := N.getD 0 0) (by rw [List.getD_eq_getElem?_getD, List.getElem?_eq_getElem (by rw [h.nlen]; decide)]; rfl)
  refine pl_val (.int .i64 (N.getD 0 0)) rfl rfl (val_load1 hT rfl rfl rfl hc) ?_
  refine pl_val (.int .i64 ((N.getD 0 0).tmod 2)) rfl rfl (val_int .i64 _ 2 _ rfl rfl rfl (by simp [intOp]) w) ?_
  repeat (first | refine pl_pure hT rfl rfl rfl ?_ | refine pl_nil ?_ | refine rn_seq ?_ | refine rn_plain ?_ | refine rn_block ?_ | refine rn_inBlock ?_ | refine rn_skip ?_ | refine rn_true rfl ?_ | refine rn_false rfl ?_ | refine rn_exit rfl ?_ | refine pl_not rfl rfl ?_)
  exact rn_ret Try.func34 (.inl ⟨_, rfl, rfl⟩) ⟨rfl, rfl⟩

theorem built_root (g : Int) : Try.prog.built 37 [(0, Value.int .i64 g)] = some (ints [g, 0, 0, 0, 0, 0, 0, 0]).toArray := by kernel_rfl

theorem rootWords_ret (h : ComV B w c s N K dv fvs D) :
    Ret Try.prog 35 [.pointer (some ⟨c, 1, none⟩)] w fun v w' => v = .agg (ints (rootW N)).toArray ∧ Keep [] w w' := by
  refine ret_of 16 Try.func35 rfl rfl (by simp) ?_
  repeat (first | refine pl_pure hT rfl rfl rfl ?_ | refine pl_nil ?_ | refine rn_seq ?_ | refine rn_plain ?_ | refine rn_block ?_ | refine rn_inBlock ?_ | refine rn_skip ?_ | refine rn_true rfl ?_ | refine rn_false rfl ?_ | refine rn_exit rfl ?_ | refine pl_not rfl rfl ?_)
  refine pl_op rfl rfl (opTo_alloc _ rfl zero_words ?_)
  have hk1 : Keep [] w (w.alloc (.cells (ints (List.replicate 8 0)).toArray 37)) := (Keep.refl _ _).alloc _
  have hr1 := Blk.new w (ints (List.replicate 8 0)) 37
  have h1 := h.keep0 hk1
  generalize (w.alloc (.cells (ints (List.replicate 8 0)).toArray 37)) = w1 at *
  repeat (first | refine pl_pure hT rfl rfl rfl ?_ | refine pl_nil ?_ | refine rn_seq ?_ | refine rn_plain ?_ | refine rn_block ?_ | refine rn_inBlock ?_ | refine rn_skip ?_ | refine rn_true rfl ?_ | refine rn_false rfl ?_ | refine rn_exit rfl ?_ | refine pl_not rfl rfl ?_)
  have hn := h.nlen
  have hc := h1.cellN (i := 0) (x := N.getD 0 0) (by rw [List.getD_eq_getElem?_getD, List.getElem?_eq_getElem (by rw [h.nlen]; decide)]; rfl)
  refine pl_val (.int .i64 (N.getD 0 0)) rfl rfl (val_load1 hT rfl rfl rfl hc) ?_
  refine pl_val _ rfl rfl (val_build _ rfl rfl (built_root _) w1) ?_
  refine pl_op rfl rfl (opTo_alloc _ rfl zero_words ?_)
  have hk2 := hk1.alloc (.cells (ints (List.replicate 8 0)).toArray 37)
  have hr2 := hr1.alloc (.cells (ints (List.replicate 8 0)).toArray 37)
  have hx2 := Blk.new w1 (ints (List.replicate 8 0)) 37
  have hne : w.heap.size ≠ w1.heap.size := by have := hr1.lt; omega
  have hsz := hk1.size
  generalize (w1.alloc (.cells (ints (List.replicate 8 0)).toArray 37)) = w2 at *
  repeat (first | refine pl_pure hT rfl rfl rfl ?_ | refine pl_nil ?_ | refine rn_seq ?_ | refine rn_plain ?_ | refine rn_block ?_ | refine rn_inBlock ?_ | refine rn_skip ?_ | refine rn_true rfl ?_ | refine rn_false rfl ?_ | refine rn_exit rfl ?_ | refine pl_not rfl rfl ?_)
  refine pl_op rfl rfl (opTo_store _ rfl rfl rfl rfl (by kernel_rfl) hx2 (by simp [ints]) (ints_one _) ?_)
  rw [splice_all (show (ints [N.getD 0 0, 0, 0, 0, 0, 0, 0, 0]).length = (ints (List.replicate 8 0)).length from rfl)]
  have hk3 := hk2.setRow w1.heap.size (ints [N.getD 0 0, 0, 0, 0, 0, 0, 0, 0]).toArray (.inr hsz)
  have hx3 := hx2.set (ints [N.getD 0 0, 0, 0, 0, 0, 0, 0, 0])
  have hr3 := hr2.other (ints [N.getD 0 0, 0, 0, 0, 0, 0, 0, 0]).toArray hne
  have h3 := h.keep0 hk3
  generalize (w2.setRow w1.heap.size (ints [N.getD 0 0, 0, 0, 0, 0, 0, 0, 0]).toArray) = w3 at *
  repeat (first | refine pl_pure hT rfl rfl rfl ?_ | refine pl_nil ?_ | refine rn_seq ?_ | refine rn_plain ?_ | refine rn_block ?_ | refine rn_inBlock ?_ | refine rn_skip ?_ | refine rn_true rfl ?_ | refine rn_false rfl ?_ | refine rn_exit rfl ?_ | refine pl_not rfl rfl ?_)
  refine rn_draw (fun _ => True) [] hMix ?_
  refine dr_any 0 _ rfl (by decide +kernel) rfl rfl (fun w' => val_sliceArrFrom 1 hT rfl rfl rfl rfl rfl (by decide) w') ?_
  refine dr_pure 1 hT rfl (by decide +kernel) rfl rfl rfl ?_
  refine dr_pure 2 hT rfl (by decide +kernel) rfl rfl rfl ?_
  refine dr_pure 3 hT rfl (by decide +kernel) rfl rfl rfl ?_
  refine dr_any 4 _ rfl (by decide +kernel) rfl rfl (fun w' => val_sliceArr hT rfl rfl rfl w') ?_
  have hcl : ((N.drop 1).take 2).length = 2 := by simp [hn]
  refine dr_op 5 rfl (by decide +kernel) rfl rfl (opTo_copy (ints ((N.drop 1).take 2)) rfl rfl rfl (by decide +kernel) hx3.drew (by rw [ints_length, hcl]; rfl) ((h3.keep0 ((Keep.refl [] w3).drew)).rangeN 1 2 (by decide)) (by rw [ints_length, hcl]; simp [ints]) (ints_one _) fun r => ⟨fun _ => trivial, ?_⟩)
  refine dr_done (by decide +kernel) ?_
  have e : splice (ints [N.getD 0 0, 0, 0, 0, 0, 0, 0, 0]) (0 + 1 * 1) (ints ((N.drop 1).take 2)) = ints (rootW N) := by
    obtain ⟨a, b, c, d, e, f, g, i, j, k, m, n, o, p, q, r, s, rfl⟩ := list17 hn
    rfl
  rw [e]
  have hx4 := hx3.drew.set (ints (rootW N))
  have hr4 := hr3.drew.other (ints (rootW N)).toArray hne
  have hk4 := (hk3.drew).setRow w1.heap.size (ints (rootW N)).toArray (.inr hsz)
  generalize (w3.drew.setRow w1.heap.size (ints (rootW N)).toArray) = w4 at *
  repeat (first | refine pl_pure hT rfl rfl rfl ?_ | refine pl_nil ?_ | refine rn_seq ?_ | refine rn_plain ?_ | refine rn_block ?_ | refine rn_inBlock ?_ | refine rn_skip ?_ | refine rn_true rfl ?_ | refine rn_false rfl ?_ | refine rn_exit rfl ?_ | refine pl_not rfl rfl ?_)
  refine pl_val (.agg (ints (rootW N)).toArray) rfl rfl (val_load _ hT rfl rfl rfl (hx4.range (by simp))) ?_
  refine pl_op rfl rfl (opTo_store _ rfl rfl rfl rfl (by kernel_rfl) hr4 (by simp [ints, rootW]) (ints_one _) ?_)
  rw [splice_all (show (ints (rootW N)).length = (ints (List.replicate 8 0)).length from rfl)]
  repeat (first | refine pl_pure hT rfl rfl rfl ?_ | refine pl_nil ?_ | refine rn_seq ?_ | refine rn_plain ?_ | refine rn_block ?_ | refine rn_inBlock ?_ | refine rn_skip ?_ | refine rn_true rfl ?_ | refine rn_false rfl ?_ | refine rn_exit rfl ?_ | refine pl_not rfl rfl ?_)
  exact rn_ret Try.func35 (.inr (.inr (.inl ⟨_, _, _, rfl, rfl, loadVar_agg hT (cs := ints (rootW N)) rfl ((hr4.set _).range (by simp))⟩))) ⟨rfl, hk4.setRow _ _ (.inr (Nat.le_refl _))⟩
end
end E
end Go.Proofs.Ytcnjmjdnlhiflab
