/- The first look at a disk that every law of it takes: it is as the document says. -/
import Derived.Test.YtoegglcdpdohdaaDiskE
namespace Go.Proofs.Ytoegglcdpdohdaa
namespace E
open Go.Proofs

def w7 : List Int := [7, 0, 0, 0, 0, 0, 0, 0]
def w8 : List Int := [8, 0, 0, 0, 0, 0, 0, 0]
def w0 : List Int := List.replicate 8 0
def L78 : List Wr := [(3, w7), (3, w8)]
def S0 : List Int := List.replicate 272 0

theorem built_w7 : Try.prog.built 32 [(0, Value.int .i64 7)] = some (ints w7).toArray := by kernel_rfl
theorem built_w8 : Try.prog.built 32 [(0, Value.int .i64 8)] = some (ints w8).toArray := by kernel_rfl
theorem read_78 : readD S0 L78 3 = w8 := by decide +kernel
theorem read_1 : readD (settled (maskB 1) L78 S0) [] 3 = w7 := by decide +kernel

theorem begun_ret (w : World) : Ret Try.prog 6 [] w fun v w' => v = .bool true ∧ Keep [] w w' := by
  refine ret_of 50 Try.func6 rfl rfl (by simp) ?_
  repeat (first | refine pl_pure hT rfl rfl rfl ?_ | refine pl_nil ?_ | refine rn_seq ?_ | refine rn_plain ?_ | refine rn_block ?_ | refine rn_inBlock ?_ | refine rn_skip ?_ | refine rn_true rfl ?_ | refine rn_false rfl ?_ | refine rn_exit rfl ?_ | refine pl_not rfl rfl ?_)
  refine pl_op rfl rfl (opTo_call rfl rfl rfl rfl (by decide +kernel) ((new_ret w).mono ?_))
  rintro v w1 ⟨rfl, h1, hk1⟩
  repeat (first | refine pl_pure hT rfl rfl rfl ?_ | refine pl_nil ?_ | refine rn_seq ?_ | refine rn_plain ?_ | refine rn_block ?_ | refine rn_inBlock ?_ | refine rn_skip ?_ | refine rn_true rfl ?_ | refine rn_false rfl ?_ | refine rn_exit rfl ?_ | refine pl_not rfl rfl ?_)
  refine pl_val _ rfl rfl (val_build _ rfl rfl built_w7 w1) ?_
  refine pl_op rfl rfl (opTo_call rfl rfl rfl rfl (by decide +kernel) ((write_ret h1 3 (ws := w7) rfl (by decide)).mono ?_))
  rintro v w2 ⟨rfl, v2, h2, hk2, hf2⟩
  repeat (first | refine pl_pure hT rfl rfl rfl ?_ | refine pl_nil ?_ | refine rn_seq ?_ | refine rn_plain ?_ | refine rn_block ?_ | refine rn_inBlock ?_ | refine rn_skip ?_ | refine rn_true rfl ?_ | refine rn_false rfl ?_ | refine rn_exit rfl ?_ | refine pl_not rfl rfl ?_)
  refine pl_val _ rfl rfl (val_build _ rfl rfl built_w8 w2) ?_
  refine pl_op rfl rfl (opTo_call rfl rfl rfl rfl (by decide +kernel) ((write_ret h2 3 (ws := w8) rfl (by decide)).mono ?_))
  rintro v w3 ⟨rfl, v3, h3, hk3, hf3⟩
  repeat (first | refine pl_pure hT rfl rfl rfl ?_ | refine pl_nil ?_ | refine rn_seq ?_ | refine rn_plain ?_ | refine rn_block ?_ | refine rn_inBlock ?_ | refine rn_skip ?_ | refine rn_true rfl ?_ | refine rn_false rfl ?_ | refine rn_exit rfl ?_ | refine pl_not rfl rfl ?_)
  refine pl_val _ rfl rfl (val_build _ rfl rfl built_words0 w3) ?_
  refine pl_op rfl rfl (opTo_call rfl rfl rfl rfl (by decide +kernel) ((write_ret h3 34 (ws := w0) rfl (by decide)).mono ?_))
  rintro v w4 ⟨rfl, v4, h4, hk4, hf4⟩
  have h4 : DiskV w.heap.size w4 w.heap.size S0 L78 v4 := h4
  have hk3' : Keep [] w w4 := by
    have a2 : Keep [] w w2 := hk1.trans hk2 fun k hk => .inr (h1.lt k hk).1
    have a3 : Keep [] w w3 := a2.trans hk3 fun k hk => .inr (h2.lt k hk).1
    exact a3.trans hk4 fun k hk => .inr (h3.lt k hk).1
  clear hk1 hk2 hk3 hk4 hf2 hf3 hf4 h1 h2 h3
  repeat (first | refine pl_pure hT rfl rfl rfl ?_ | refine pl_nil ?_ | refine rn_seq ?_ | refine rn_plain ?_ | refine rn_block ?_ | refine rn_inBlock ?_ | refine rn_skip ?_ | refine rn_true rfl ?_ | refine rn_false rfl ?_ | refine rn_exit rfl ?_ | refine pl_not rfl rfl ?_)
  refine pl_op rfl rfl (opTo_call rfl rfl rfl rfl (by decide +kernel) ((read_ret h4 (by decide) 3).mono ?_))
  rintro v w5 ⟨rfl, hk5⟩
  rw [read_78]
  have h5 := h4.keep hk5 (by simp)
  have hkw5 := hk3'.tr0 hk5
  refine pl_op rfl rfl (opTo_alloc _ rfl zero_words ?_)
  have hk6 : Keep [] w5 (w5.alloc (.cells (ints (List.replicate 8 0)).toArray 32)) := (Keep.refl _ _).alloc _
  have hx6 : Blk (w5.alloc (.cells (ints (List.replicate 8 0)).toArray 32)) w5.heap.size (ints (List.replicate 8 0)) 32 := Blk.new _ _ _
  generalize (w5.alloc (.cells (ints (List.replicate 8 0)).toArray 32)) = w6 at *
  refine pl_op rfl rfl (opTo_store _ rfl rfl rfl rfl (by kernel_rfl) hx6 (by decide) (ints_one _) ?_)
  rw [splice_all (by rfl)]
  have hk7 : Keep [] w5 (w6.setRow w5.heap.size (ints w8).toArray) := hk6.setRow _ _ (.inr (Nat.le_refl _))
  have hx7 := hx6.set (ints w8)
  generalize (w6.setRow w5.heap.size (ints w8).toArray) = w7' at *
  have h7 := h5.keep hk7 (by simp)
  have hkw7 := hkw5.tr0 hk7
  have hne : w5.heap.size ≠ w.heap.size := by have := h5.blk.lt; omega
  repeat (first | refine pl_pure hT rfl rfl rfl ?_ | refine pl_nil ?_ | refine rn_seq ?_ | refine rn_plain ?_ | refine rn_block ?_ | refine rn_inBlock ?_ | refine rn_skip ?_ | refine rn_true rfl ?_ | refine rn_false rfl ?_ | refine rn_exit rfl ?_ | refine pl_not rfl rfl ?_)
  refine pl_op rfl rfl (opTo_call rfl rfl rfl rfl (by decide +kernel) ((crash_ret h7 (by decide) 1).mono ?_))
  rintro v w8' ⟨rfl, h8, hk8⟩
  have hx8 := hk8.blk hx7 (by simpa using hne)
  have hkw8 : Keep [] w w8' := hkw7.trans hk8 fun k hk => .inr (by simp at hk; omega)
  repeat (first | refine pl_pure hT rfl rfl rfl ?_ | refine pl_nil ?_ | refine rn_seq ?_ | refine rn_plain ?_ | refine rn_block ?_ | refine rn_inBlock ?_ | refine rn_skip ?_ | refine rn_true rfl ?_ | refine rn_false rfl ?_ | refine rn_exit rfl ?_ | refine pl_not rfl rfl ?_)
  refine pl_val _ rfl rfl (val_indexArr 0 hT rfl rfl rfl rfl rfl (by decide) w8') ?_
  refine pl_val (.int .i64 8) rfl rfl (val_load1 hT rfl rfl rfl (hx8.cell rfl)) ?_
  refine pl_val (.bool true) rfl rfl (val_int .i64 8 8 _ rfl rfl rfl rfl w8') ?_
  repeat (first | refine pl_pure hT rfl rfl rfl ?_ | refine pl_nil ?_ | refine rn_seq ?_ | refine rn_plain ?_ | refine rn_block ?_ | refine rn_inBlock ?_ | refine rn_skip ?_ | refine rn_true rfl ?_ | refine rn_false rfl ?_ | refine rn_exit rfl ?_ | refine pl_not rfl rfl ?_)
  refine pl_op rfl rfl (opTo_call rfl rfl rfl rfl (by decide +kernel) ((read_ret h8 (by decide) 3).mono ?_))
  rintro v w9 ⟨rfl, hk9⟩
  rw [read_1]
  have h9 := h8.keep hk9 (by simp)
  have hkw9 := hkw8.tr0 hk9
  refine pl_val (.int .i64 7) rfl rfl (val_at w7 0 (by decide +kernel : arrInt Try.prog 32 8 = true) rfl rfl rfl rfl (by decide) rfl w9) ?_
  refine pl_val (.bool true) rfl rfl (val_int .i64 7 7 _ rfl rfl rfl rfl w9) ?_
  repeat (first | refine pl_pure hT rfl rfl rfl ?_ | refine pl_nil ?_ | refine rn_seq ?_ | refine rn_plain ?_ | refine rn_block ?_ | refine rn_inBlock ?_ | refine rn_skip ?_ | refine rn_true rfl ?_ | refine rn_false rfl ?_ | refine rn_exit rfl ?_ | refine pl_not rfl rfl ?_)
  refine pl_op rfl rfl (opTo_call rfl rfl rfl rfl (by decide +kernel) ((wait_ret h9).mono ?_))
  rintro v w10 ⟨rfl, rfl⟩
  refine pl_val (.bool true) rfl rfl (val_int .i64 0 0 _ rfl rfl rfl rfl _) ?_
  repeat (first | refine pl_pure hT rfl rfl rfl ?_ | refine pl_nil ?_ | refine rn_seq ?_ | refine rn_plain ?_ | refine rn_block ?_ | refine rn_inBlock ?_ | refine rn_skip ?_ | refine rn_true rfl ?_ | refine rn_false rfl ?_ | refine rn_exit rfl ?_ | refine pl_not rfl rfl ?_)
  refine pl_op rfl rfl (opTo_call rfl rfl rfl rfl (by decide +kernel) ((sure_ret h9).mono ?_))
  rintro v w11 ⟨g, cap, rfl, ho, hk11⟩
  repeat (first | refine pl_pure hT rfl rfl rfl ?_ | refine pl_nil ?_ | refine rn_seq ?_ | refine rn_plain ?_ | refine rn_block ?_ | refine rn_inBlock ?_ | refine rn_skip ?_ | refine rn_true rfl ?_ | refine rn_false rfl ?_ | refine rn_exit rfl ?_ | refine pl_not rfl rfl ?_)
  refine pl_val (.bool true) rfl rfl (val_int .i64 34 34 _ rfl rfl rfl rfl _) ?_
  repeat (first | refine pl_pure hT rfl rfl rfl ?_ | refine pl_nil ?_ | refine rn_seq ?_ | refine rn_plain ?_ | refine rn_block ?_ | refine rn_inBlock ?_ | refine rn_skip ?_ | refine rn_true rfl ?_ | refine rn_false rfl ?_ | refine rn_exit rfl ?_ | refine pl_not rfl rfl ?_)
  exact rn_ret Try.func6 (.inl ⟨_, rfl, rfl⟩) ⟨rfl, hkw9.tr0 hk11⟩
end E
end Go.Proofs.Ytoegglcdpdohdaa
