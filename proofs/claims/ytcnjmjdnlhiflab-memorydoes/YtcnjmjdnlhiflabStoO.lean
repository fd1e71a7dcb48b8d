/- What the laws of a store know: a commit by its view; a store that is new; the first look; the lists that they are handed. -/
import Derived.Test.YtcnjmjdnlhiflabStoN
namespace Go.Proofs.Ytcnjmjdnlhiflab
set_option maxRecDepth 20000
namespace E
open Go.Proofs

/-! ### A commit by its view -/
theorem commit_view {S : List Int} (hG : Good S) {ps : List Pg} (hc : chk ps = 0) (hwf : ∀ p ∈ ps, p.2.length = 8) :
    (∃ S2, doDeeds ((deedsOf S ps).take (ps.length + 5)) (S, []) = (S2, []) ∧ New S ps S2) ∧
    ∀ m, m < ps.length + 5 → ∀ stays : Nat → Bool,
      (m = ps.length + 4 ∧ stays 0 = true → New S ps (settled stays (doDeeds ((deedsOf S ps).take m) (S, [])).2 (doDeeds ((deedsOf S ps).take m) (S, [])).1)) ∧
      (¬ (m = ps.length + 4 ∧ stays 0 = true) → Same S (settled stays (doDeeds ((deedsOf S ps).take m) (S, [])).2 (doDeeds ((deedsOf S ps).take m) (S, [])).1)) := by
  obtain ⟨W, r, hWl, hW, hr, hD, hsame, hnew⟩ := commit_math hG hc hwf
  have hlen : (W.map fun p => (some ((p.1 : Int), p.2) : Deed)).length = ps.length + 2 := by simp [hWl]
  have hwr := doDeeds_writes W (fun p hp => (hW p hp).1) S []
  rw [List.nil_append] at hwr
  have hb : hasB ((r.1 : Nat) : Int) = true := by have := hr.1; simp [hasB]; omega
  have h3 : doDeeds ((deedsOf S ps).take (ps.length + 3)) (S, []) = (settled (fun _ => true) W S, []) := by
    rw [hD, List.append_assoc, List.append_assoc, List.take_append, hlen, List.take_of_length_le (by omega), show ps.length + 3 - (ps.length + 2) = 1 by omega, doDeeds, List.foldl_append]
    rw [doDeeds] at hwr
    rw [hwr]
    rfl
  have h4 : doDeeds ((deedsOf S ps).take (ps.length + 4)) (S, []) = (settled (fun _ => true) W S, [r]) := by
    rw [hD, List.append_assoc, List.append_assoc, List.take_append, hlen, List.take_of_length_le (by omega), show ps.length + 4 - (ps.length + 2) = 2 by omega, doDeeds, List.foldl_append]
    rw [doDeeds] at hwr
    rw [hwr]
    show doDeed (doDeed (S, W) none) (some ((r.1 : Int), r.2)) = _
    simp [doDeed, hb]
  have h5 : doDeeds ((deedsOf S ps).take (ps.length + 5)) (S, []) = (upd (settled (fun _ => true) W S) r, []) := by
    rw [List.take_of_length_le (by rw [deedsOf_len]; omega)]
    rw [hD, List.append_assoc, List.append_assoc, doDeeds, List.foldl_append]
    rw [doDeeds] at hwr
    rw [hwr]
    show doDeed (doDeed (doDeed (S, W) none) (some ((r.1 : Int), r.2))) none = _
    simp only [doDeed, hb, if_true, List.nil_append, Int.toNat_natCast]
    rw [settled_all [_]]
    rfl
  refine ⟨⟨_, h5, hnew⟩, fun m hm stays => ?_⟩
  have hsW : Same S (settled (fun _ => true) W S) := hsame W _ fun p hp => hp
  rcases Nat.lt_or_ge m (ps.length + 3) with h | h
  · refine ⟨fun he => by omega, fun _ => ?_⟩
    have : doDeeds ((deedsOf S ps).take m) (S, []) = (S, W.take m) := by
      rw [hD, List.append_assoc, List.append_assoc, List.take_append_of_le_length (by rw [hlen]; omega), ← List.map_take]
      have := doDeeds_writes (W.take m) (fun p hp => (hW p (List.mem_of_mem_take hp)).1) S []
      rwa [List.nil_append] at this
    rw [this]
    exact hsame _ _ fun p hp => List.mem_of_mem_take hp
  · have : m = ps.length + 3 ∨ m = ps.length + 4 := by omega
    rcases this with rfl | rfl
    · rw [h3]
      exact ⟨fun he => by omega, fun _ => hsW⟩
    · rw [h4]
      have es : settled stays [r] (settled (fun _ => true) W S) = if stays 0 then upd (settled (fun _ => true) W S) r else settled (fun _ => true) W S := by
        simp [settled, stl]
      rw [es]
      refine ⟨fun he => by rw [if_pos he.2]; exact hnew, fun hn => ?_⟩
      rw [if_neg fun h0 => hn ⟨rfl, h0⟩]
      exact hsW

def S0 : List Int := List.replicate 272 0
theorem pgS0 : pgS S0 = List.replicate 14 0 := by decide +kernel
theorem genS0 : genS S0 = 0 := by decide +kernel
theorem good0 : Good S0 := by
  refine ⟨List.length_replicate, ?_, ?_⟩
  · decide +kernel
  · decide +kernel
theorem read0 (i : Int) : readS S0 i = z8 := by
  unfold readS
  split
  · rw [pgS0]
    have : (List.replicate 14 (0 : Int)).getD i.toNat 0 = 0 := by
      rw [List.getD_eq_getElem?_getD, List.getElem?_replicate]
      split <;> rfl
    rw [this]
    rfl
  · rfl

/-- The words that pages say of a page, if any. -/
def lookI (ps : List Pg) (i : Int) : Option (List Int) := ((ps.filter fun p => p.1 == i).getLast?).map (·.2)
theorem lookI_snoc (ps : List Pg) (p : Pg) (i : Int) : lookI (ps ++ [p]) i = if p.1 = i then some p.2 else lookI ps i := by
  unfold lookI
  rw [List.filter_append]
  by_cases h : p.1 = i
  · simp [h]
  · simp [h]
theorem New.look {S S' : List Int} {ps : List Pg} (h : New S ps S') (hc : chk ps = 0) (i : Int) : readS S' i = (lookI ps i).getD (readS S i) := by
  cases hi : hasP i with
  | true =>
    have hi' : 0 ≤ i ∧ i < 14 := by simpa [hasP] using hi
    rw [h.read i hi, newRead]
    have : lookP ps i.toNat = lookI ps i := by
      unfold lookP lookI
      rw [show ((i.toNat : Nat) : Int) = i by omega]
    rw [this]
    cases lookI ps i <;> rfl
  | false =>
    have hn : lookI ps i = none := by
      unfold lookI
      rw [List.filter_eq_nil_iff.2 fun p hp => ?_]
      · rfl
      · have := chkFrom_ok hc p hp
        simp only [beq_iff_eq]
        intro e
        rw [e, hi] at this
        cases this
    rw [hn]
    simp [readS, hi]

/-! ### The first look -/
def ws5 : List Int := [5, 0, 0, 0, 0, 0, 0, 0]
def ws6 : List Int := [6, 0, 0, 0, 0, 0, 0, 0]
theorem built_5 : Try.prog.built 37 [(0, Value.int .i64 5)] = some (ints ws5).toArray := by kernel_rfl
theorem built_6 : Try.prog.built 37 [(0, Value.int .i64 6)] = some (ints ws6).toArray := by kernel_rfl
theorem built_pg (i : Int) {ws : List Int} (h : ws.length = 8) : Try.prog.built 43 [(0, Value.int .i64 i), (1, Value.agg (ints ws).toArray)] = some (pcell (i, ws)).toArray := by
  obtain ⟨a, b, c, d, e, f, g, j, rfl⟩ := list8 h
  kernel_rfl
theorem slice_pg (i : Int) {ws : List Int} (h : ws.length = 8) : sliceCells Try.prog 23 1 [(0, Value.agg (pcell (i, ws)).toArray)] = some (43, (pcell (i, ws)).toArray) := by
  obtain ⟨a, b, c, d, e, f, g, j, rfl⟩ := list8 h
  kernel_rfl

theorem pgs_one (w : World) (p : Pg) (h8 : p.2.length = 8) : Pgs (w.heap.size + 1) (w.alloc (.cells (pcell p).toArray 43)) (.slice (some ⟨w.heap.size, 0, none⟩) 1 1) [p] := by
  refine ⟨⟨_, _, rfl, fun _ => ⟨_, _, rfl, Nat.lt_succ_self _, (Blk.new w (pcell p) _).range ?_⟩⟩, by simpa using h8, by rw [World.size_alloc]; exact Nat.le_refl _⟩
  simp [pcells]

theorem storeBegun_ret (w : World) : Ret Try.prog 7 [] w fun v w' => v = .bool true ∧ Keep [] w w' := by
  refine ret_of 61 Try.func7 rfl rfl (by simp) ?_
  repeat (first | refine pl_pure hT rfl rfl rfl ?_ | refine pl_nil ?_ | refine rn_seq ?_ | refine rn_plain ?_ | refine rn_block ?_ | refine rn_inBlock ?_ | refine rn_skip ?_ | refine rn_true rfl ?_ | refine rn_false rfl ?_ | refine rn_exit rfl ?_ | refine pl_not rfl rfl ?_)
  refine pl_op rfl rfl (opTo_call rfl rfl rfl rfl (by decide +kernel) ((new_ret w).mono ?_))
  rintro v w1 ⟨rfl, h1, hk1⟩
  repeat (first | refine pl_pure hT rfl rfl rfl ?_ | refine pl_nil ?_ | refine rn_seq ?_ | refine rn_plain ?_ | refine rn_block ?_ | refine rn_inBlock ?_ | refine rn_skip ?_ | refine rn_true rfl ?_ | refine rn_false rfl ?_ | refine rn_exit rfl ?_ | refine pl_not rfl rfl ?_)
  refine pl_op rfl rfl (opTo_call rfl rfl rfl rfl (by decide +kernel) ((open_ret w.heap.size w1).mono ?_))
  rintro v w2 ⟨rfl, hs2, hk2⟩
  have h2 := h1.keep hk2 (by simp)
  have hkw2 := hk1.tr0 hk2
  generalize w1.heap.size = s at *
  clear h1 hk1 hk2
  repeat (first | refine pl_pure hT rfl rfl rfl ?_ | refine pl_nil ?_ | refine rn_seq ?_ | refine rn_plain ?_ | refine rn_block ?_ | refine rn_inBlock ?_ | refine rn_skip ?_ | refine rn_true rfl ?_ | refine rn_false rfl ?_ | refine rn_exit rfl ?_ | refine pl_not rfl rfl ?_)
  refine pl_val _ rfl rfl (val_build _ rfl rfl built_5 w2) ?_
  refine pl_val _ rfl rfl (val_build _ rfl rfl (built_pg 3 (ws := ws5) rfl) w2) ?_
  refine pl_op rfl rfl (opTo_buildSlice _ _ rfl rfl (slice_pg 3 (ws := ws5) rfl) ?_)
  have hk3 : Keep [] w2 (w2.alloc (.cells (pcell (3, ws5)).toArray 43)) := (Keep.refl _ _).alloc _
  have hp3 := pgs_one w2 (3, ws5) rfl
  have h3 := h2.keep hk3 (by simp)
  have hs3 : StoreV _ s w.heap.size := hk3.blk hs2 (by simp)
  have hkw3 := hkw2.tr0 hk3
  generalize (w2.alloc (.cells (pcell (3, ws5)).toArray 43)) = w3 at *
  have hd0 : List.replicate 272 (0 : Int) = S0 := rfl
  rw [hd0] at h3
  obtain ⟨⟨S2, hS2, hN2⟩, _⟩ := commit_view good0 (ps := [(3, ws5)]) (by decide) (by simp; rfl)
  refine pl_op rfl rfl (opTo_call rfl rfl rfl rfl (by decide +kernel) ((commit_ret hs3 h3 hp3 (by decide) (by decide) (by rw [genS0]; decide) (by rw [genS0]; decide) (-1) (by decide) 6 rfl).mono ?_))
  rintro v w4 ⟨rfl, wv4, h4, hk4, hf4⟩
  rw [show (6 : Nat) = [((3 : Int), ws5)].length + 5 from rfl, hS2] at h4
  replace h4 : DiskV w.heap.size w4 w.heap.size S2 [] wv4 := h4
  have hs4 : StoreV w4 s w.heap.size := hk4.blk hs3 fun hm => absurd (fpD_typ h3 s hm _ _ hs3) (by decide)
  have hkw4 : Keep [] w w4 := hkw3.trans hk4 fun k hk => .inr (h3.lt k hk).1
  have hg2 : genS S2 = 1 := by rw [hN2.gen, genS0]; rfl
  have hr2 : readS S2 3 = ws5 := by rw [hN2.look (by decide)]; rfl
  clear h3 hs3 hk4 hf4 hkw3 hp3 hk3 hS2 h2 hs2 hkw2
  repeat (first | refine pl_pure hT rfl rfl rfl ?_ | refine pl_nil ?_ | refine rn_seq ?_ | refine rn_plain ?_ | refine rn_block ?_ | refine rn_inBlock ?_ | refine rn_skip ?_ | refine rn_true rfl ?_ | refine rn_false rfl ?_ | refine rn_exit rfl ?_ | refine pl_not rfl rfl ?_)
  refine pl_val _ rfl rfl (val_build _ rfl rfl built_6 w4) ?_
  refine pl_val _ rfl rfl (val_build _ rfl rfl (built_pg 3 (ws := ws6) rfl) w4) ?_
  refine pl_op rfl rfl (opTo_buildSlice _ _ rfl rfl (slice_pg 3 (ws := ws6) rfl) ?_)
  have hk3 : Keep [] w4 (w4.alloc (.cells (pcell (3, ws6)).toArray 43)) := (Keep.refl _ _).alloc _
  have hp3 := pgs_one w4 (3, ws6) rfl
  have h3 := h4.keep hk3 (by simp)
  have hs3 : StoreV _ s w.heap.size := hk3.blk hs4 (by simp)
  have hkw3 := hkw4.tr0 hk3
  generalize (w4.alloc (.cells (pcell (3, ws6)).toArray 43)) = w5 at *
  obtain ⟨_, htorn⟩ := commit_view hN2.good (ps := [(3, ws6)]) (by decide) (by simp; rfl)
  have hsame := (htorn 5 (by decide) (maskB 0)).2 (by decide +kernel)
  have hll := doDeeds_len ((deedsOf S2 [(3, ws6)]).take 5) (S2, [])
  refine pl_op rfl rfl (opTo_call rfl rfl rfl rfl (by decide +kernel) ((commit_ret hs3 h3 hp3 (by decide) (by decide) (by rw [hg2]; decide) (by rw [hg2]; decide) 5 (by decide) 5 rfl).mono ?_))
  rintro v w6 ⟨rfl, wv6, h6, hk6, hf6⟩
  have hkw6 : Keep [] w w6 := hkw3.trans hk6 fun k hk => .inr (h3.lt k hk).1
  repeat (first | refine pl_pure hT rfl rfl rfl ?_ | refine pl_nil ?_ | refine rn_seq ?_ | refine rn_plain ?_ | refine rn_block ?_ | refine rn_inBlock ?_ | refine rn_skip ?_ | refine rn_true rfl ?_ | refine rn_false rfl ?_ | refine rn_exit rfl ?_ | refine pl_not rfl rfl ?_)
  refine pl_op rfl rfl (opTo_call rfl rfl rfl rfl (by decide +kernel) ((crash_ret h6 (by rw [List.length_take] at hll; simp only [List.length_nil] at hll; have := Nat.min_le_left 5 (deedsOf S2 [(3, ws6)]).length; omega) 0).mono ?_))
  rintro v w7 ⟨rfl, h7, hk7⟩
  have hkw7 : Keep [] w w7 := hkw6.trans hk7 fun k hk => .inr (by simp at hk; omega)
  generalize settled (maskB 0) (doDeeds ((deedsOf S2 [(3, ws6)]).take 5) (S2, [])).2 (doDeeds ((deedsOf S2 [(3, ws6)]).take 5) (S2, [])).1 = S7 at *
  repeat (first | refine pl_pure hT rfl rfl rfl ?_ | refine pl_nil ?_ | refine rn_seq ?_ | refine rn_plain ?_ | refine rn_block ?_ | refine rn_inBlock ?_ | refine rn_skip ?_ | refine rn_true rfl ?_ | refine rn_false rfl ?_ | refine rn_exit rfl ?_ | refine pl_not rfl rfl ?_)
  refine pl_op rfl rfl (opTo_call rfl rfl rfl rfl (by decide +kernel) ((open_ret w.heap.size w7).mono ?_))
  rintro v w8 ⟨rfl, hs8, hk8⟩
  have h8 := h7.keep hk8 (by simp)
  have hkw8 := hkw7.tr0 hk8
  generalize w7.heap.size = s8 at *
  repeat (first | refine pl_pure hT rfl rfl rfl ?_ | refine pl_nil ?_ | refine rn_seq ?_ | refine rn_plain ?_ | refine rn_block ?_ | refine rn_inBlock ?_ | refine rn_skip ?_ | refine rn_true rfl ?_ | refine rn_false rfl ?_ | refine rn_exit rfl ?_ | refine pl_not rfl rfl ?_)
  refine pl_val (.bool true) rfl rfl (val_int .i64 0 0 _ rfl rfl rfl rfl w8) ?_
  repeat (first | refine pl_pure hT rfl rfl rfl ?_ | refine pl_nil ?_ | refine rn_seq ?_ | refine rn_plain ?_ | refine rn_block ?_ | refine rn_inBlock ?_ | refine rn_skip ?_ | refine rn_true rfl ?_ | refine rn_false rfl ?_ | refine rn_exit rfl ?_ | refine pl_not rfl rfl ?_)
  refine pl_val (.bool true) rfl rfl (val_int .i64 0 0 _ rfl rfl rfl rfl w8) ?_
  repeat (first | refine pl_pure hT rfl rfl rfl ?_ | refine pl_nil ?_ | refine rn_seq ?_ | refine rn_plain ?_ | refine rn_block ?_ | refine rn_inBlock ?_ | refine rn_skip ?_ | refine rn_true rfl ?_ | refine rn_false rfl ?_ | refine rn_exit rfl ?_ | refine pl_not rfl rfl ?_)
  refine pl_val (.bool true) rfl rfl (val_neNil (by decide +kernel) rfl rfl w8) ?_
  repeat (first | refine pl_pure hT rfl rfl rfl ?_ | refine pl_nil ?_ | refine rn_seq ?_ | refine rn_plain ?_ | refine rn_block ?_ | refine rn_inBlock ?_ | refine rn_skip ?_ | refine rn_true rfl ?_ | refine rn_false rfl ?_ | refine rn_exit rfl ?_ | refine pl_not rfl rfl ?_)
  refine pl_op rfl rfl (opTo_call rfl rfl rfl rfl (by decide +kernel) ((gen_ret hs8 h8).mono ?_))
  rintro v w9 ⟨rfl, hk9⟩
  rw [hsame.gen, hg2]
  refine pl_val (.bool true) rfl rfl (val_int .i64 1 1 _ rfl rfl rfl rfl w9) ?_
  repeat (first | refine pl_pure hT rfl rfl rfl ?_ | refine pl_nil ?_ | refine rn_seq ?_ | refine rn_plain ?_ | refine rn_block ?_ | refine rn_inBlock ?_ | refine rn_skip ?_ | refine rn_true rfl ?_ | refine rn_false rfl ?_ | refine rn_exit rfl ?_ | refine pl_not rfl rfl ?_)
  refine pl_op rfl rfl (opTo_call rfl rfl rfl rfl (by decide +kernel) ((sread_ret (hk9.blk hs8 (by simp)) (h8.keep hk9 (by simp)) 3).mono ?_))
  rintro v w10 ⟨rfl, hk10⟩
  rw [hsame.read, hr2]
  refine pl_val (.int .i64 5) rfl rfl (val_at ws5 0 arrW rfl rfl rfl rfl (by decide) rfl w10) ?_
  refine pl_val (.bool true) rfl rfl (val_int .i64 5 5 _ rfl rfl rfl rfl w10) ?_
  repeat (first | refine pl_pure hT rfl rfl rfl ?_ | refine pl_nil ?_ | refine rn_seq ?_ | refine rn_plain ?_ | refine rn_block ?_ | refine rn_inBlock ?_ | refine rn_skip ?_ | refine rn_true rfl ?_ | refine rn_false rfl ?_ | refine rn_exit rfl ?_ | refine pl_not rfl rfl ?_)
  refine pl_op rfl rfl (opTo_call rfl rfl rfl rfl (by decide +kernel) ((hasP_ret 3 w10).mono ?_))
  rintro v w11 ⟨rfl, rfl⟩
  repeat (first | refine pl_pure hT rfl rfl rfl ?_ | refine pl_nil ?_ | refine rn_seq ?_ | refine rn_plain ?_ | refine rn_block ?_ | refine rn_inBlock ?_ | refine rn_skip ?_ | refine rn_true rfl ?_ | refine rn_false rfl ?_ | refine rn_exit rfl ?_ | refine pl_not rfl rfl ?_)
  exact rn_ret Try.func7 (.inl ⟨_, rfl, rfl⟩) ⟨rfl, (hkw8.tr0 hk9).tr0 hk10⟩
end E
end Go.Proofs.Ytcnjmjdnlhiflab
