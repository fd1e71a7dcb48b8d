/- The contract of Disk.Write. -/
import Derived.Test.YtcnjmjdnlhiflabDiskA
namespace Go.Proofs.Ytcnjmjdnlhiflab
set_option maxRecDepth 20000
namespace E
open Go.Proofs

theorem built_write (i : Int) {ws : List Int} (h : ws.length = 8) : Try.prog.built 104 [(0, Value.int .i64 i), (1, Value.agg (ints ws).toArray)] = some (Value.int .i64 i :: ints ws).toArray := by
  obtain ⟨a, b, c, d, e, f, g, j, rfl⟩ := list8 h
  kernel_rfl
theorem slice_write (i : Int) {ws : List Int} (h : ws.length = 8) : sliceCells Try.prog 71 1 [(0, Value.agg (Value.int .i64 i :: ints ws).toArray)] = some (104, (Value.int .i64 i :: ints ws).toArray) := by
  obtain ⟨a, b, c, d, e, f, g, j, rfl⟩ := list8 h
  kernel_rfl

theorem splice_last {S : List Int} (h : S.length = 272) (u v : Value) : splice (ints S ++ [u]) (0 + 272) [v] = ints S ++ [v] := by
  have hl : (ints S).length = 272 := by rw [ints_length, h]
  simp [splice, hl]

theorem wcells_snoc (L : List Wr) (p : Wr) : wcells (L ++ [p]) = wcells L ++ wcell p := by simp [wcells]

theorem write_ret {B : Nat} {w : World} {d : Nat} {S : List Int} {L : List Wr} {wv : Value} (h : DiskV B w d S L wv) (i : Int) {ws : List Int} (hw : ws.length = 8) (hL : L.length < 1000000) :
    Ret Try.prog 52 [.pointer (some ⟨d, 0, none⟩), .int .i64 i, .agg (ints ws).toArray] w fun v w' => v = .bool (hasB i) ∧
      ∃ wv', DiskV B w' d S (if hasB i then L ++ [(i.toNat, ws)] else L) wv' ∧ Keep (fpD d wv) w w' ∧ ∀ k ∈ fpD d wv', k ∈ fpD d wv ∨ w.heap.size ≤ k := by
  refine ret_of 22 Try.func52 rfl rfl (by simp) ?_
  repeat (first | refine pl_pure hT rfl rfl rfl ?_ | refine pl_nil ?_ | refine rn_seq ?_ | refine rn_plain ?_ | refine rn_block ?_ | refine rn_inBlock ?_ | refine rn_skip ?_ | refine rn_true rfl ?_ | refine rn_false rfl ?_ | refine rn_exit rfl ?_ | refine pl_not rfl rfl ?_)
  refine pl_op rfl rfl (opTo_box (ints ws) rfl rfl rfl ?_)
  repeat (first | refine pl_pure hT rfl rfl rfl ?_ | refine pl_nil ?_ | refine rn_seq ?_ | refine rn_plain ?_ | refine rn_block ?_ | refine rn_inBlock ?_ | refine rn_skip ?_ | refine rn_true rfl ?_ | refine rn_false rfl ?_ | refine rn_exit rfl ?_ | refine pl_not rfl rfl ?_)
  refine pl_op rfl rfl (opTo_call rfl rfl rfl rfl (by decide +kernel) ((has_ret i _).mono ?_))
  rintro v w1 ⟨rfl, rfl⟩
  have hk1 : Keep [] w (w.alloc (.cells (ints ws).toArray 37)) := (Keep.refl _ _).alloc _
  cases hb : hasB i with
  | false =>
    repeat (first | refine pl_pure hT rfl rfl rfl ?_ | refine pl_nil ?_ | refine rn_seq ?_ | refine rn_plain ?_ | refine rn_block ?_ | refine rn_inBlock ?_ | refine rn_skip ?_ | refine rn_true rfl ?_ | refine rn_false rfl ?_ | refine rn_exit rfl ?_ | refine pl_not rfl rfl ?_)
    exact rn_ret Try.func52 (.inl ⟨_, rfl, rfl⟩) ⟨rfl, wv, h.keep hk1 (by simp), hk1.of0, fun k hk => .inl hk⟩
  | true =>
    repeat (first | refine pl_pure hT rfl rfl rfl ?_ | refine pl_nil ?_ | refine rn_seq ?_ | refine rn_plain ?_ | refine rn_block ?_ | refine rn_inBlock ?_ | refine rn_skip ?_ | refine rn_true rfl ?_ | refine rn_false rfl ?_ | refine rn_exit rfl ?_ | refine pl_not rfl rfl ?_)
    have hbx : Blk (w.alloc (.cells (ints ws).toArray 37)) w.heap.size (ints ws) 37 := Blk.new _ _ _
    have h1 : DiskV B (w.alloc (.cells (ints ws).toArray 37)) d S L wv := h.keep hk1 (by simp)
    have hlt := h.lt
    have hsz : (w.alloc (.cells (ints ws).toArray 37)).heap.size = w.heap.size + 1 := World.size_alloc _ _
    generalize (w.alloc (.cells (ints ws).toArray 37)) = w1 at *
    have hd1 : d ∉ wv.ownBlock.toList := by simpa using h.ne
    have hx1 : w.heap.size ∉ wv.ownBlock.toList := fun hm => by
      have := (hlt w.heap.size (by simp only [fpD, List.mem_cons]; exact .inr hm)).2
      omega
    have hS : Keep wv.ownBlock.toList w1 w1.drew := (Keep.refl _ _).drew
    refine rn_draw (fun w' => Keep wv.ownBlock.toList w1 w') [10, 11, 12] hMix ?_
    refine dr_pure 0 hT rfl (by decide +kernel) rfl rfl rfl ?_
    refine dr_pure 1 hT rfl (by decide +kernel) rfl rfl rfl ?_
    refine dr_pure 2 hT rfl (by decide +kernel) rfl rfl rfl ?_
    refine dr_pure 3 hT rfl (by decide +kernel) rfl rfl rfl ?_
    refine dr_val 4 wv rfl (by decide +kernel) rfl rfl (fun w' hk => val_load1 hT rfl rfl rfl ((hk.blk h1.blk hd1).cell (by simp [h1.len, ints_length]))) hS ?_
    refine dr_pure 5 hT rfl (by decide +kernel) rfl rfl rfl ?_
    refine dr_val 6 (.agg (ints ws).toArray) rfl (by decide +kernel) rfl rfl (fun w' hk => val_load (ints ws) hT rfl rfl (by simp [ints_length, hw]; rfl) ((hk.blk hbx hx1).range (by simp))) hS ?_
    refine dr_val 7 (.agg (.int .i64 i :: ints ws).toArray) rfl (by decide +kernel) rfl rfl (fun w' _ => val_build _ rfl rfl (built_write i hw) w') hS ?_
    refine dr_op 8 rfl (by decide +kernel) rfl rfl (opTo_buildSlice _ _ rfl rfl (slice_write i hw) ⟨fun _ => hS.alloc _, ?_⟩)
    have hS2 : Keep wv.ownBlock.toList w1 (w1.drew.alloc (.cells (.int .i64 i :: ints ws).toArray 104)) := hS.alloc _
    have hK2 : Keep [] w1 (w1.drew.alloc (.cells (.int .i64 i :: ints ws).toArray 104)) := ((Keep.refl _ _).drew).alloc _
    have hbl : Blk (w1.drew.alloc (.cells (.int .i64 i :: ints ws).toArray 104)) w1.heap.size (.int .i64 i :: ints ws) 104 := Blk.new w1.drew _ _
    have hsz2 : (w1.drew.alloc (.cells (.int .i64 i :: ints ws).toArray 104)).heap.size = w1.heap.size + 1 := World.size_alloc _ _
    refine dr_op 9 rfl (by decide +kernel) rfl rfl (opTo_append B 104 9 72 (wcells L) (.int .i64 i :: ints ws) rfl rfl rfl (by decide +kernel) (by decide) (hK2.owns h1.owns (by simp)) (hbl.range (by simp))
      (by simp [ints_length, hw]) (by intro u hu; rcases List.mem_cons.1 hu with rfl | hu; rfl; exact ints_one ws u hu) (by decide) (by unfold maxLen; omega) (by omega) (by have := h.base; have := h.blk.lt; omega) ?_)
    intro g cap w3 hown hgrow hat hlt3
    have hS3 : Keep wv.ownBlock.toList w1 w3 := hS2.grown hgrow fun k e => .inl (by simp [e])
    refine ⟨fun _ => hS3, ?_⟩
    refine dr_switch (fun _ => True) [] (by decide +kernel) ?_
    have hTr : True := trivial
    refine dr_pure 10 hT rfl (by decide +kernel) rfl rfl rfl ?_
    refine dr_pure 11 hT rfl (by decide +kernel) rfl rfl rfl ?_
    have hb3 := hS3.blk h1.blk hd1
    refine dr_op 12 rfl (by decide +kernel) rfl rfl (opTo_store _ rfl rfl rfl rfl (by kernel_rfl) hb3 (by simp [ints_length, h1.len]) (by simp; rfl) ⟨fun _ => trivial, ?_⟩)
    rw [splice_last h1.len]
    refine dr_done (by decide +kernel) ?_
    repeat (first | refine pl_pure hT rfl rfl rfl ?_ | refine pl_nil ?_ | refine rn_seq ?_ | refine rn_plain ?_ | refine rn_block ?_ | refine rn_inBlock ?_ | refine rn_skip ?_ | refine rn_true rfl ?_ | refine rn_false rfl ?_ | refine rn_exit rfl ?_ | refine pl_not rfl rfl ?_)
    have hgd : g ≠ d := fun e => by
      rcases hat with hat | hat
      · exact h.ne (e ▸ hat)
      · have := h.blk.lt; omega
    have hKw : Keep (fpD d wv) w w3 := (hk1.of0).tr (hS3.mono fun k hk => .inl (by simp only [fpD, List.mem_cons]; exact .inr hk))
    refine rn_ret Try.func52 (.inl ⟨_, rfl, rfl⟩) ⟨rfl, .slice (some ⟨g, 0, none⟩) (L.length + 1) cap, ⟨hb3.set _, ?_, ?_, h.len, h.base, ?_⟩, hKw.setRow d _ (.inl (by simp [fpD])), ?_⟩
    · simp only [if_true, List.length_append, List.length_singleton, wcells_snoc]
      have hi : (i.toNat : Int) = i := by
        have := hb
        simp [hasB] at this
        omega
      have hc : wcell (i.toNat, ws) = .int .i64 i :: ints ws := by simp [wcell, hi]
      rw [hc]
      exact Keep.owns ((Keep.refl [d] w3).setRow d _ (.inl (by simp))) hown fun k e => by
        simp only [Value.ownBlock, Option.some.injEq] at e
        simp only [List.mem_singleton]
        omega
    · simp only [Value.ownBlock, ne_eq, Option.some.injEq]
      exact hgd
    · intro p hp
      simp only [if_true, List.mem_append, List.mem_singleton] at hp
      rcases hp with hp | rfl
      · exact h.wf p hp
      · have := hb
        simp [hasB] at this
        exact ⟨by show i.toNat < 34; omega, hw⟩
    · intro k hk
      simp only [fpD, Value.ownBlock, Option.toList_some, List.mem_cons, List.not_mem_nil, or_false] at hk
      rcases hk with rfl | rfl
      · exact .inl (by simp [fpD])
      · rcases hat with hat | hat
        · exact .inl (by simp [fpD, hat])
        · exact .inr (by omega)
end E
end Go.Proofs.Ytcnjmjdnlhiflab
