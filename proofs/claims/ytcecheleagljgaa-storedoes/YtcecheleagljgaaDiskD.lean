/- The contracts of Disk.Read, Disk.settle, Disk.Flush, Disk.Crash, Disk.Sure. -/
import Derived.Test.YtcecheleagljgaaDiskC
namespace Go.Proofs.Ytcecheleagljgaa
set_option maxRecDepth 20000
namespace E
open Go.Proofs

/-- What is read of a sector. -/
def readD (S : List Int) (L : List Wr) (i : Int) : List Int :=
  if hasB i then (match lastOf (fun p => (p.1 : Int) == i) L with
    | some p => p.2
    | none => (S.drop (i.toNat * 8)).take 8) else List.replicate 8 0

theorem lastOf_mem {is : Wr → Bool} {L : List Wr} {p : Wr} (h : lastOf is L = some p) : p ∈ L := by
  have := List.mem_of_getLast? h
  exact (List.mem_filter.1 this).1

theorem readD_length {S : List Int} {L : List Wr} {i : Int} (hS : S.length = 272) (hL : ∀ p ∈ L, p.1 < 34 ∧ p.2.length = 8) : (readD S L i).length = 8 := by
  unfold readD
  split
  · rename_i h
    simp [hasB] at h
    split
    · rename_i p hp; exact (hL p (lastOf_mem hp)).2
    · simp [hS]; omega
  · simp

theorem sector_cells {S : List Int} (hS : S.length = 272) (u : Value) (j : Nat) (hj : j < 34) : ((ints S ++ [u]).drop (j * 8)).take 8 = ints ((S.drop (j * 8)).take 8) := by
  rw [List.drop_append_of_le_length (by rw [ints_length]; omega), List.take_append_of_le_length (by simp [ints_length]; omega)]
  simp [ints, List.map_take, List.map_drop]

theorem read_ret {B : Nat} {w : World} {d : Nat} {S : List Int} {L : List Wr} {wv : Value} (h : DiskV B w d S L wv) (hL : L.length < 1000000) (i : Int) :
    Ret Try.prog 18 [.pointer (some ⟨d, 0, none⟩), .int .i64 i] w fun v w' => v = .agg (ints (readD S L i)).toArray ∧ Keep [] w w' := by
  refine ret_of 27 Try.func18 rfl rfl (by simp) ?_
  repeat (first | refine pl_pure hT rfl rfl rfl ?_ | refine pl_nil ?_ | refine rn_seq ?_ | refine rn_plain ?_ | refine rn_block ?_ | refine rn_inBlock ?_ | refine rn_skip ?_ | refine rn_true rfl ?_ | refine rn_false rfl ?_ | refine rn_exit rfl ?_ | refine pl_not rfl rfl ?_)
  refine pl_op rfl rfl (opTo_box [.int .i64 i] rfl rfl rfl ?_)
  refine pl_op rfl rfl (opTo_alloc _ rfl zero_words ?_)
  rw [World.size_alloc]
  have hk1 : Keep [] w ((w.alloc (.cells [Value.int .i64 i].toArray 3)).alloc (.cells (ints (List.replicate 8 0)).toArray 32)) := ((Keep.refl _ _).alloc _).alloc _
  have hb1 : Blk ((w.alloc (.cells [Value.int .i64 i].toArray 3)).alloc (.cells (ints (List.replicate 8 0)).toArray 32)) w.heap.size [.int .i64 i] 3 := (Blk.new _ _ _).alloc _
  have hr1 : Blk ((w.alloc (.cells [Value.int .i64 i].toArray 3)).alloc (.cells (ints (List.replicate 8 0)).toArray 32)) (w.heap.size + 1) (ints (List.replicate 8 0)) 32 := by
    have := Blk.new (w.alloc (.cells [Value.int .i64 i].toArray 3)) (ints (List.replicate 8 0)) 32
    rwa [World.size_alloc] at this
  have h1 := h.keep hk1 (by simp)
  generalize ((w.alloc (.cells [Value.int .i64 i].toArray 3)).alloc (.cells (ints (List.replicate 8 0)).toArray 32)) = w1 at *
  repeat (first | refine pl_pure hT rfl rfl rfl ?_ | refine pl_nil ?_ | refine rn_seq ?_ | refine rn_plain ?_ | refine rn_block ?_ | refine rn_inBlock ?_ | refine rn_skip ?_ | refine rn_true rfl ?_ | refine rn_false rfl ?_ | refine rn_exit rfl ?_ | refine pl_not rfl rfl ?_)
  refine pl_val (.int .i64 i) rfl rfl (val_load1 hT rfl rfl rfl (hb1.cell rfl)) ?_
  refine pl_op rfl rfl (opTo_call rfl rfl rfl rfl (by decide +kernel) ((has_ret i _).mono ?_))
  rintro v w1 ⟨rfl, rfl⟩
  cases hb : hasB i with
  | false =>
    repeat (first | refine pl_pure hT rfl rfl rfl ?_ | refine pl_nil ?_ | refine rn_seq ?_ | refine rn_plain ?_ | refine rn_block ?_ | refine rn_inBlock ?_ | refine rn_skip ?_ | refine rn_true rfl ?_ | refine rn_false rfl ?_ | refine rn_exit rfl ?_ | refine pl_not rfl rfl ?_)
    refine pl_val _ rfl rfl (val_build _ rfl rfl built_words0 w1) ?_
    refine pl_op rfl rfl (opTo_store _ rfl rfl rfl rfl (by kernel_rfl) hr1 (by simp [ints]) (ints_one _) ?_)
    rw [splice_all rfl]
    repeat (first | refine pl_pure hT rfl rfl rfl ?_ | refine pl_nil ?_ | refine rn_seq ?_ | refine rn_plain ?_ | refine rn_block ?_ | refine rn_inBlock ?_ | refine rn_skip ?_ | refine rn_true rfl ?_ | refine rn_false rfl ?_ | refine rn_exit rfl ?_ | refine pl_not rfl rfl ?_)
    refine rn_ret Try.func18 (.inr (.inr (.inl ⟨_, _, _, rfl, rfl, loadVar_agg hT (cs := ints (List.replicate 8 0)) rfl ((hr1.set _).range (by simp))⟩))) ⟨?_, hk1.setRow _ _ (.inr (by omega))⟩
    simp [readD, hb]
  | true =>
    repeat (first | refine pl_pure hT rfl rfl rfl ?_ | refine pl_nil ?_ | refine rn_seq ?_ | refine rn_plain ?_ | refine rn_block ?_ | refine rn_inBlock ?_ | refine rn_skip ?_ | refine rn_true rfl ?_ | refine rn_false rfl ?_ | refine rn_exit rfl ?_ | refine pl_not rfl rfl ?_)
    have hi : 0 ≤ i ∧ i < 34 := by simpa [hasB] using hb
    refine pl_op rfl rfl (opTo_call rfl rfl rfl rfl (by decide +kernel) ((last_ret h1 hL (fun p => (p.1 : Int) == i) 39 [.pointer (some ⟨w.heap.size, 0, none⟩)] (by decide +kernel) (fun p _ w2 hk => read1_ret (hk.blk hb1 (by simp)) p)).mono ?_))
    rintro v w2 ⟨rfl, hk2⟩
    have hr2 := hk2.blk hr1 (by simp)
    have hb2 := hk2.blk hb1 (by simp)
    have h2 := h1.keep hk2 (by simp)
    have hkw := hk1.tr0 hk2
    have hp8 : ((lastOf (fun p => (p.1 : Int) == i) L).getD wzero).2.length = 8 := by
      cases hl : lastOf (fun p => (p.1 : Int) == i) L with
      | none => rfl
      | some p => exact (h.wf p (lastOf_mem hl)).2
    repeat (first | refine pl_pure hT rfl rfl rfl ?_ | refine pl_nil ?_ | refine rn_seq ?_ | refine rn_plain ?_ | refine rn_block ?_ | refine rn_inBlock ?_ | refine rn_skip ?_ | refine rn_true rfl ?_ | refine rn_false rfl ?_ | refine rn_exit rfl ?_ | refine pl_not rfl rfl ?_)
    refine pl_op rfl rfl (opTo_alloc _ rfl zero_write ?_)
    have hk3 : Keep [] w2 (w2.alloc (.cells (wcell (0, List.replicate 8 0)).toArray 75)) := (Keep.refl _ _).alloc _
    have hx3 : Blk (w2.alloc (.cells (wcell (0, List.replicate 8 0)).toArray 75)) w2.heap.size (wcell (0, List.replicate 8 0)) 75 := Blk.new _ _ _
    have hr3 := hk3.blk hr2 (by simp)
    have hb3 := hk3.blk hb2 (by simp)
    have h3 := h2.keep hk3 (by simp)
    have hkw3 := hkw.tr0 hk3
    have hne : w.heap.size + 1 ≠ w2.heap.size := by have := hr2.lt; omega
    have hne2 : w.heap.size ≠ w2.heap.size := by have := hb2.lt; omega
    have hne3 : d ≠ w2.heap.size := by have := h2.blk.lt; omega
    have hsz : w.heap.size ≤ w2.heap.size := hkw.size
    generalize (w2.alloc (.cells (wcell (0, List.replicate 8 0)).toArray 75)) = w3 at *
    generalize hfound : (lastOf (fun p => (p.1 : Int) == i) L).getD wzero = p at *
    refine pl_op rfl rfl (opTo_store _ rfl rfl rfl rfl (by rw [wcell_length hp8]; decide +kernel) hx3 (by rw [wcell_length hp8]; decide) (wcell_one _) ?_)
    rw [splice_all (by rw [wcell_length hp8]; rfl)]
    have hk4 : Keep [] w (w3.setRow w2.heap.size (wcell p).toArray) := hkw3.setRow _ _ (.inr hsz)
    have hx4 := hx3.set (wcell p)
    have hr4 := hr3.other (wcell p).toArray hne
    have hb4 := hb3.other (wcell p).toArray hne2
    have hd4 := h3.blk.other (wcell p).toArray hne3
    generalize (w3.setRow w2.heap.size (wcell p).toArray) = w4 at *
    cases hl : lastOf (fun p => (p.1 : Int) == i) L with
    | none =>
      repeat (first | refine pl_pure hT rfl rfl rfl ?_ | refine pl_nil ?_ | refine rn_seq ?_ | refine rn_plain ?_ | refine rn_block ?_ | refine rn_inBlock ?_ | refine rn_skip ?_ | refine rn_true rfl ?_ | refine rn_false rfl ?_ | refine rn_exit rfl ?_ | refine pl_not rfl rfl ?_)
      have hdr : d ≠ w.heap.size + 1 := by have := h.blk.lt; omega
      have hS : Keep [] w4 w4.drew := (Keep.refl _ _).drew
      refine rn_draw (fun w' => Keep [] w4 w') [6] hMix ?_
      refine dr_pure 0 hT rfl (by decide +kernel) rfl rfl rfl ?_
      refine dr_val 1 (.int .i64 i) rfl (by decide +kernel) rfl rfl (fun w' hk => val_load1 hT rfl rfl rfl ((hk.blk hb4 (by simp)).cell rfl)) hS ?_
      refine dr_pure 2 hT rfl (by decide +kernel) rfl rfl rfl ?_
      refine dr_pure 3 hT rfl (by decide +kernel) rfl rfl rfl ?_
      refine dr_val 4 _ rfl (by decide +kernel) rfl rfl (fun w' _ => val_indexArr i.toNat hT rfl rfl rfl rfl (by omega) (by omega) w') hS ?_
      refine dr_val 5 (.agg (ints ((S.drop (i.toNat * 8)).take 8)).toArray) rfl (by decide +kernel) rfl rfl (fun w' hk => val_load _ hT rfl rfl (by simp [ints_length, h.len]; rw [Nat.min_eq_left (by omega)]; rfl) ((hk.blk hd4 (by simp)).range (by
        rw [Nat.zero_add, ints_length, List.length_take, List.length_drop, h.len, Nat.min_eq_left (by omega)]
        exact sector_cells h.len wv i.toNat (by omega)))) hS ?_
      have hlen : (ints ((S.drop (i.toNat * 8)).take 8)).length = 8 := by rw [ints_length, List.length_take, List.length_drop, h.len]; omega
      refine dr_op 6 rfl (by decide +kernel) rfl rfl (opTo_store _ rfl rfl rfl rfl (by rw [hlen]; decide +kernel) hr4.drew (by rw [hlen]; decide) (ints_one _) ⟨fun hn => absurd (by simp) hn, ?_⟩)
      rw [splice_all (by rw [hlen]; rfl)]
      refine dr_done (by decide +kernel) ?_
      repeat (first | refine pl_pure hT rfl rfl rfl ?_ | refine pl_nil ?_ | refine rn_seq ?_ | refine rn_plain ?_ | refine rn_block ?_ | refine rn_inBlock ?_ | refine rn_skip ?_ | refine rn_true rfl ?_ | refine rn_false rfl ?_ | refine rn_exit rfl ?_ | refine pl_not rfl rfl ?_)
      refine rn_ret Try.func18 (.inr (.inr (.inl ⟨_, _, _, rfl, rfl, loadVar_agg hT (cs := ints ((S.drop (i.toNat * 8)).take 8)) (by rw [hlen]; rfl) (((hr4.drew).set _).range (by simp))⟩))) ⟨?_, (hk4.drew).setRow _ _ (.inr (by omega))⟩
      simp [readD, hb, hl]
    | some q =>
      repeat (first | refine pl_pure hT rfl rfl rfl ?_ | refine pl_nil ?_ | refine rn_seq ?_ | refine rn_plain ?_ | refine rn_block ?_ | refine rn_inBlock ?_ | refine rn_skip ?_ | refine rn_true rfl ?_ | refine rn_false rfl ?_ | refine rn_exit rfl ?_ | refine pl_not rfl rfl ?_)
      have hpq : p = q := by rw [← hfound, hl]; rfl
      subst hpq
      have hlen : (ints p.2).length = 8 := by rw [ints_length, hp8]
      refine pl_val (.agg (ints p.2).toArray) rfl rfl (val_load _ hT rfl rfl (by rw [hlen]; rfl) (hx4.range (by simp [wcell]))) ?_
      refine pl_op rfl rfl (opTo_store _ rfl rfl rfl rfl (by rw [hlen]; decide +kernel) hr4 (by rw [hlen]; decide) (ints_one _) ?_)
      rw [splice_all (by rw [hlen]; rfl)]
      repeat (first | refine pl_pure hT rfl rfl rfl ?_ | refine pl_nil ?_ | refine rn_seq ?_ | refine rn_plain ?_ | refine rn_block ?_ | refine rn_inBlock ?_ | refine rn_skip ?_ | refine rn_true rfl ?_ | refine rn_false rfl ?_ | refine rn_exit rfl ?_ | refine pl_not rfl rfl ?_)
      refine rn_ret Try.func18 (.inr (.inr (.inl ⟨_, _, _, rfl, rfl, loadVar_agg hT (cs := ints p.2) (by rw [hlen]; rfl) ((hr4.set _).range (by simp))⟩))) ⟨?_, hk4.setRow _ _ (.inr (by omega))⟩
      simp [readD, hb, hl]
end E
end Go.Proofs.Ytcecheleagljgaa
