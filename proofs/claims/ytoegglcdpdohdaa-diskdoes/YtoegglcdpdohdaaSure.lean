/- The walk of DiskSure: whatever the steps, the mask and the sector, it returns true, and turns nothing that was there. -/
import Derived.Test.YtoegglcdpdohdaaDiskM
namespace Go.Proofs.Ytoegglcdpdohdaa
namespace E
open Go.Proofs

theorem slice_words {ws : List Int} (h : ws.length = 8) : sliceCells Try.prog 28 1 [(0, Value.agg (ints ws).toArray)] = some (32, (ints ws).toArray) := by
  obtain ⟨a, b, c, d, e, f, g, j, rfl⟩ := list8 h
  kernel_rfl

theorem zero_step : ((Try.prog.info? 35).bind (·.zero)).map (·.cells) = some (scell ⟨0, 0, List.replicate 8 0, 0⟩).toArray := by kernel_rfl

theorem scell_one (s : DStep) : ∀ u ∈ scell s, u.oneCell' = true := by
  intro u hu
  simp only [scell, List.mem_cons, List.mem_append, List.not_mem_nil, or_false] at hu
  rcases hu with rfl | rfl | hu | rfl
  · rfl
  · rfl
  · exact ints_one _ u hu
  · rfl

def wflat (l : List (List Int)) : List Value := l.flatMap ints

/-- What DiskSure knows in its first loop. -/
structure SureI (B : Nat) (w' : World) (hb at' : Nat) (S : List Int) (L : List Wr) (wv v8 : Value) : Prop where
  disk : DiskV B w' B S L wv
  held : Blk w' hb (ints (sector S at')) 32
  wait : w'.ownsRow B 32 8 v8 (forK L at').length (wflat (forK L at'))
  n1 : hb ∉ fpD B wv
  n2 : ∀ k, v8.ownBlock = some k → k ∉ fpD B wv ∧ k ≠ hb
  hbB : B ≤ hb

theorem SureI.keep {B : Nat} {w w' : World} {hb at' : Nat} {S : List Int} {L : List Wr} {wv v8 : Value} (h : SureI B w hb at' S L wv v8) (hk : Keep [] w w') : SureI B w' hb at' S L wv v8 :=
  ⟨h.disk.keep hk (by simp), hk.blk h.held (by simp), hk.owns h.wait (by simp), h.n1, h.n2, h.hbB⟩

theorem wflat_at {l : List (List Int)} (hl : ∀ x ∈ l, x.length = 8) {j : Nat} {x : List Int} (hx : l[j]? = some x) : ((wflat l).drop (j * 8)).take 8 = ints x :=
  flat_at (fun p hp => by rw [ints_length, hl p hp]) hx

theorem forK_snoc (L : List Wr) (p : Wr) (k : Nat) : forK (L ++ [p]) k = if p.1 = k then forK L k ++ [p.2] else forK L k := by
  unfold forK
  by_cases h : p.1 = k
  · simp [h]
  · simp [h]

theorem forK_le (L : List Wr) (k : Nat) : (forK L k).length ≤ L.length := by
  simp only [forK, List.length_map]
  exact List.length_filter_le _ _

theorem sure_walk {w : World} {lv : Value} {st : List DStep} (hst : ArgS w lv st) (mask at' : Int) :
    Ret Try.prog 4 [lv, .int .u64 mask, .int .i64 at'] w fun v w' => v = .bool true ∧ Keep [] w w' := by
  refine ret_of 133 Try.func4 rfl rfl (by simp) ?_
  repeat (first | refine pl_pure hT rfl rfl rfl ?_ | refine pl_nil ?_ | refine rn_seq ?_ | refine rn_plain ?_ | refine rn_block ?_ | refine rn_inBlock ?_ | refine rn_skip ?_ | refine rn_true rfl ?_ | refine rn_false rfl ?_ | refine rn_exit rfl ?_ | refine pl_not rfl rfl ?_)
  refine pl_op rfl rfl (opTo_call rfl rfl rfl rfl (by decide +kernel) ((begun_ret w).mono ?_))
  rintro v w1 ⟨rfl, hk1⟩
  repeat (first | refine pl_pure hT rfl rfl rfl ?_ | refine pl_nil ?_ | refine rn_seq ?_ | refine rn_plain ?_ | refine rn_block ?_ | refine rn_inBlock ?_ | refine rn_skip ?_ | refine rn_true rfl ?_ | refine rn_false rfl ?_ | refine rn_exit rfl ?_ | refine pl_not rfl rfl ?_)
  obtain ⟨la, lcap, hlv, _⟩ := hst.ex
  refine pl_val (.int .i64 st.length) rfl rfl (val_pure hT (by subst hlv; rfl) w1) ?_
  by_cases hbig : 300 < st.length
  · refine pl_val (.bool true) rfl rfl (val_int .i64 _ 300 _ rfl rfl rfl (by simp [intOp]; omega) w1) ?_
    repeat (first | refine pl_pure hT rfl rfl rfl ?_ | refine pl_nil ?_ | refine rn_seq ?_ | refine rn_plain ?_ | refine rn_block ?_ | refine rn_inBlock ?_ | refine rn_skip ?_ | refine rn_true rfl ?_ | refine rn_false rfl ?_ | refine rn_exit rfl ?_ | refine pl_not rfl rfl ?_)
    exact rn_ret Try.func4 (.inl ⟨_, rfl, rfl⟩) ⟨rfl, hk1⟩
  refine pl_val (.bool false) rfl rfl (val_int .i64 _ 300 _ rfl rfl rfl (by simp [intOp]; omega) w1) ?_
  repeat (first | refine pl_pure hT rfl rfl rfl ?_ | refine pl_nil ?_ | refine rn_seq ?_ | refine rn_plain ?_ | refine rn_block ?_ | refine rn_inBlock ?_ | refine rn_skip ?_ | refine rn_true rfl ?_ | refine rn_false rfl ?_ | refine rn_exit rfl ?_ | refine pl_not rfl rfl ?_)
  refine pl_op rfl rfl (opTo_call rfl rfl rfl rfl (by decide +kernel) ((has_ret at' w1).mono ?_))
  rintro v w1' ⟨rfl, rfl⟩
  cases hhas : hasB at' with
  | false =>
    repeat (first | refine pl_pure hT rfl rfl rfl ?_ | refine pl_nil ?_ | refine rn_seq ?_ | refine rn_plain ?_ | refine rn_block ?_ | refine rn_inBlock ?_ | refine rn_skip ?_ | refine rn_true rfl ?_ | refine rn_false rfl ?_ | refine rn_exit rfl ?_ | refine pl_not rfl rfl ?_)
    exact rn_ret Try.func4 (.inl ⟨_, rfl, rfl⟩) ⟨rfl, hk1⟩
  | true =>
  repeat (first | refine pl_pure hT rfl rfl rfl ?_ | refine pl_nil ?_ | refine rn_seq ?_ | refine rn_plain ?_ | refine rn_block ?_ | refine rn_inBlock ?_ | refine rn_skip ?_ | refine rn_true rfl ?_ | refine rn_false rfl ?_ | refine rn_exit rfl ?_ | refine pl_not rfl rfl ?_)
  obtain ⟨a, rfl⟩ : ∃ a : Nat, at' = (a : Int) := by
    have : 0 ≤ at' := by simp [hasB] at hhas; omega
    exact ⟨at'.toNat, by omega⟩
  have ha : a < 34 := by simp [hasB] at hhas; omega
  refine pl_op rfl rfl (opTo_call rfl rfl rfl rfl (by decide +kernel) ((new_ret w1').mono ?_))
  rintro v w2 ⟨rfl, h2, hk2⟩
  have hB : w.heap.size ≤ w1'.heap.size := hk1.size
  have hkw2 := hk1.tr0 hk2
  generalize w1'.heap.size = B at *
  repeat (first | refine pl_pure hT rfl rfl rfl ?_ | refine pl_nil ?_ | refine rn_seq ?_ | refine rn_plain ?_ | refine rn_block ?_ | refine rn_inBlock ?_ | refine rn_skip ?_ | refine rn_true rfl ?_ | refine rn_false rfl ?_ | refine rn_exit rfl ?_ | refine pl_not rfl rfl ?_)
  refine pl_val _ rfl rfl (val_build _ rfl rfl built_words0 w2) ?_
  refine pl_op rfl rfl (opTo_alloc _ rfl zero_words ?_)
  have hk3 : Keep [] w2 (w2.alloc (.cells (ints (List.replicate 8 0)).toArray 32)) := (Keep.refl _ _).alloc _
  have hx3 : Blk (w2.alloc (.cells (ints (List.replicate 8 0)).toArray 32)) w2.heap.size (ints (List.replicate 8 0)) 32 := Blk.new _ _ _
  generalize (w2.alloc (.cells (ints (List.replicate 8 0)).toArray 32)) = w3 at *
  refine pl_op rfl rfl (opTo_store _ rfl rfl rfl rfl (by kernel_rfl) hx3 (by decide) (ints_one _) ?_)
  rw [splice_all (by rfl)]
  have hk4 : Keep [] w2 (w3.setRow w2.heap.size (ints (List.replicate 8 0)).toArray) := hk3.setRow _ _ (.inr (Nat.le_refl _))
  have hx4 := hx3.set (ints (List.replicate 8 0))
  generalize (w3.setRow w2.heap.size (ints (List.replicate 8 0)).toArray) = w4 at *
  have h4 := h2.keep hk4 (by simp)
  have hbB : B < w2.heap.size := h2.blk.lt
  have hsec0 : sector (List.replicate 272 0) a = List.replicate 8 0 := by
    simp only [sector, List.drop_replicate, List.take_replicate]
    rw [Nat.min_eq_left (by omega)]
  have hI0 : SureI B w4 w2.heap.size a (List.replicate 272 0) [] (.slice none 0 0) (.slice none 0 0) :=
    ⟨h4, by rw [hsec0]; exact hx4, World.ownsRow_nil _ _ _ _, by simp [fpD, Value.ownBlock]; omega, by simp [Value.ownBlock], by omega⟩
  have hkw4 := hkw2.tr0 hk4
  generalize w2.heap.size = hb at *
  clear h2 h4 hx3 hx4 hk2 hk3 hk4 hk1 hkw2
  repeat (first | refine pl_pure hT rfl rfl rfl ?_ | refine pl_nil ?_ | refine rn_seq ?_ | refine rn_plain ?_ | refine rn_block ?_ | refine rn_inBlock ?_ | refine rn_skip ?_ | refine rn_true rfl ?_ | refine rn_false rfl ?_ | refine rn_exit rfl ?_ | refine pl_not rfl rfl ?_)
  refine rn_ind (fun m σ w' => ∃ j S L wv v8, m = st.length - j ∧ j ≤ st.length ∧ L.length ≤ j ∧ σ = [(0, lv), (1, .int .u64 mask), (2, .int .i64 (a : Nat)), (7, .pointer (some ⟨B, 0, none⟩)), (8, v8), (9, .pointer (some ⟨hb, 0, none⟩)), (10, .int .i64 (j : Nat))] ∧ SureI B w' hb a S L wv v8 ∧ Keep [] w w')
    (st.length - 0) _ ?_ ⟨0, _, _, _, _, rfl, Nat.zero_le _, Nat.le_refl _, rfl, hI0, hkw4⟩ ?_
  · exact ⟨rfl, rfl, rfl, rfl, rfl, rfl, rfl, trivial⟩
  clear hI0 hkw4
  rintro m σ w3 ih ⟨j, S, L, wv, v8, hm, hj, hLj, rfl, hI, hk3⟩
  repeat (first | refine pl_pure hT rfl rfl rfl ?_ | refine pl_nil ?_ | refine rn_seq ?_ | refine rn_plain ?_ | refine rn_block ?_ | refine rn_inBlock ?_ | refine rn_skip ?_ | refine rn_true rfl ?_ | refine rn_false rfl ?_ | refine rn_exit rfl ?_ | refine pl_not rfl rfl ?_)
  refine pl_val (.int .i64 st.length) rfl rfl (val_pure hT (by subst hlv; rfl) w3) ?_
  have hS := hI.disk.len
  have hwf := hI.disk.wf
  rcases Nat.lt_or_ge j st.length with hlt | hge
  · refine pl_val (.bool true) rfl rfl (val_int .i64 _ _ _ rfl rfl rfl (by simp [intOp, hlt]) w3) ?_
    obtain ⟨s, hs⟩ : ∃ s, st[j]? = some s := ⟨st[j], List.getElem?_eq_getElem hlt⟩
    obtain ⟨b, q, cap, hlv', hbl0, hr0⟩ := hst.at hs
    have hr := hk3.range hr0 hbl0 (by simp)
    have hw8 := hst.wf s (List.mem_of_getElem? hs)
    have hs11 := scell_length hw8
    have hnext : ∀ (w4 : World) (S' : List Int) (L' : List Wr) (wv' v8' : Value), SureI B w4 hb a S' L' wv' v8' → Keep [] w w4 → L'.length ≤ j + 1 →
        Rn _ _ _ _ _ [(0, lv), (1, .int .u64 mask), (2, .int .i64 (a : Nat)), (7, .pointer (some ⟨B, 0, none⟩)), (8, v8'), (9, .pointer (some ⟨hb, 0, none⟩)), (10, .int .i64 ((j + 1 : Nat) : Int))] w4 :=
      fun w4 S' L' wv' v8' h4 hk4 hl4 => ih (st.length - (j + 1)) _ w4 (by omega) ⟨j + 1, S', L', wv', v8', rfl, hlt, hl4, rfl, h4, hk4⟩
    clear ih
    repeat (first | refine pl_pure hT rfl rfl rfl ?_ | refine pl_nil ?_ | refine rn_seq ?_ | refine rn_plain ?_ | refine rn_block ?_ | refine rn_inBlock ?_ | refine rn_skip ?_ | refine rn_true rfl ?_ | refine rn_false rfl ?_ | refine rn_exit rfl ?_ | refine pl_not rfl rfl ?_)
    refine pl_val _ rfl rfl (val_index j hT rfl (by rw [hlv']; rfl) rfl rfl rfl hlt w3) ?_
    refine pl_val (.agg (scell s).toArray) rfl rfl (val_load _ hT rfl rfl (by rw [hs11]; rfl) hr) ?_
    refine pl_op rfl rfl (opTo_alloc _ rfl zero_step ?_)
    have hk4 : Keep [] w3 (w3.alloc (.cells (scell ⟨0, 0, List.replicate 8 0, 0⟩).toArray 35)) := (Keep.refl _ _).alloc _
    have hx4 : Blk (w3.alloc (.cells (scell ⟨0, 0, List.replicate 8 0, 0⟩).toArray 35)) w3.heap.size (scell ⟨0, 0, List.replicate 8 0, 0⟩) 35 := Blk.new _ _ _
    generalize (w3.alloc (.cells (scell ⟨0, 0, List.replicate 8 0, 0⟩).toArray 35)) = w4 at *
    refine pl_op rfl rfl (opTo_store _ rfl rfl rfl rfl (by rw [hs11]; decide +kernel) hx4 (by rw [hs11]; decide) (scell_one _) ?_)
    rw [splice_all (by rw [hs11]; rfl)]
    have hk5 : Keep [] w3 (w4.setRow w3.heap.size (scell s).toArray) := hk4.setRow _ _ (.inr (Nat.le_refl _))
    have hx5 := hx4.set (scell s)
    generalize (w4.setRow w3.heap.size (scell s).toArray) = w5 at *
    have hI5 := hI.keep hk5
    have hkw5 := hk3.tr0 hk5
    have hxlt : ∀ k ∈ fpD B wv, k < w3.heap.size := fun k hk => (hI.disk.lt k hk).2
    have hhb : hb < w3.heap.size := hI.held.lt
    have hv8 : ∀ k, v8.ownBlock = some k → B ≤ k ∧ k < w3.heap.size := hI.wait.lt
    have hsz5 := hk5.size
    generalize w3.heap.size = xb at *
    clear hI hk4 hx4 hr hr0
    repeat (first | refine pl_pure hT rfl rfl rfl ?_ | refine pl_nil ?_ | refine rn_seq ?_ | refine rn_plain ?_ | refine rn_block ?_ | refine rn_inBlock ?_ | refine rn_skip ?_ | refine rn_true rfl ?_ | refine rn_false rfl ?_ | refine rn_exit rfl ?_ | refine pl_not rfl rfl ?_)
    refine pl_val (.int .i64 s.d) rfl rfl (val_load1 hT rfl rfl rfl (hx5.cell rfl)) ?_
    repeat (first | refine pl_pure hT rfl rfl rfl ?_ | refine pl_nil ?_ | refine rn_seq ?_ | refine rn_plain ?_ | refine rn_block ?_ | refine rn_inBlock ?_ | refine rn_skip ?_ | refine rn_true rfl ?_ | refine rn_false rfl ?_ | refine rn_exit rfl ?_ | refine pl_not rfl rfl ?_)
    by_cases h0 : s.d = 0
    · refine pl_val (.bool true) rfl rfl (val_int .i64 _ _ _ rfl rfl rfl (by simp [intOp, h0]) w5) ?_
      repeat (first | refine pl_pure hT rfl rfl rfl ?_ | refine pl_nil ?_ | refine rn_seq ?_ | refine rn_plain ?_ | refine rn_block ?_ | refine rn_inBlock ?_ | refine rn_skip ?_ | refine rn_true rfl ?_ | refine rn_false rfl ?_ | refine rn_exit rfl ?_ | refine pl_not rfl rfl ?_)
      refine pl_val (.int .i64 s.a) rfl rfl (val_load1 hT rfl rfl rfl (hx5.cell rfl)) ?_
      repeat (first | refine pl_pure hT rfl rfl rfl ?_ | refine pl_nil ?_ | refine rn_seq ?_ | refine rn_plain ?_ | refine rn_block ?_ | refine rn_inBlock ?_ | refine rn_skip ?_ | refine rn_true rfl ?_ | refine rn_false rfl ?_ | refine rn_exit rfl ?_ | refine pl_not rfl rfl ?_)
      refine pl_val (.agg (ints s.ws).toArray) rfl rfl (val_load _ hT rfl rfl (by rw [ints_length, hw8]; rfl) (hx5.range (by simp [scell]))) ?_
      refine pl_op rfl rfl (opTo_call rfl rfl rfl rfl (by decide +kernel) ((write_ret hI5.disk s.a (ws := s.ws) hw8 (by omega)).mono ?_))
      rintro v w6 ⟨rfl, wv', h6, hk6, hf6⟩
      have hx6 := hk6.blk hx5 (fun hm => by have := hxlt xb hm; omega)
      have hheld6 := hk6.blk hI5.held hI5.n1
      have hwait6 := hk6.owns hI5.wait fun k e => (hI5.n2 k e).1
      have hkw6 : Keep [] w w6 := hkw5.trans hk6 fun k hk => .inr (by have := (hI5.disk.lt k hk).1; omega)
      have hn1 : hb ∉ fpD B wv' := fun hm => by rcases hf6 hb hm with h | h; exact hI5.n1 h; omega
      have hn2 : ∀ k, v8.ownBlock = some k → k ∉ fpD B wv' ∧ k ≠ hb := fun k e => ⟨fun hm => by
        have := hv8 k e
        rcases hf6 k hm with h | h
        · exact (hI5.n2 k e).1 h
        · omega, (hI5.n2 k e).2⟩
      have hsz6 := hk6.size
      cases hh : hasB s.a with
      | false =>
        rw [hh] at h6
        repeat (first | refine pl_pure hT rfl rfl rfl ?_ | refine pl_nil ?_ | refine rn_seq ?_ | refine rn_plain ?_ | refine rn_block ?_ | refine rn_inBlock ?_ | refine rn_skip ?_ | refine rn_true rfl ?_ | refine rn_false rfl ?_ | refine rn_exit rfl ?_ | refine pl_not rfl rfl ?_)
        refine pl_val (.int .i64 ((j + 1 : Nat) : Int)) rfl rfl (val_int .i64 j 1 _ rfl rfl rfl (by simp only [intOp]; rw [wrap_i64 (by omega) (by omega)]; rfl) w6) ?_
        repeat (first | refine pl_pure hT rfl rfl rfl ?_ | refine pl_nil ?_ | refine rn_seq ?_ | refine rn_plain ?_ | refine rn_block ?_ | refine rn_inBlock ?_ | refine rn_skip ?_ | refine rn_true rfl ?_ | refine rn_false rfl ?_ | refine rn_exit rfl ?_ | refine pl_not rfl rfl ?_)
        refine rn_sub ?_ (hnext w6 S L wv' v8 ⟨h6, hheld6, hwait6, hn1, hn2, hI5.hbB⟩ hkw6 (by omega))
        exact ⟨rfl, rfl, rfl, rfl, rfl, rfl, rfl, trivial⟩
      | true =>
        rw [hh] at h6
        simp only [if_true] at h6
        obtain ⟨sa, hsa⟩ : ∃ n : Nat, s.a = (n : Int) := by
          have : 0 ≤ s.a := by simp [hasB] at hh; omega
          exact ⟨s.a.toNat, by omega⟩
        rw [hsa, Int.toNat_natCast] at h6
        repeat (first | refine pl_pure hT rfl rfl rfl ?_ | refine pl_nil ?_ | refine rn_seq ?_ | refine rn_plain ?_ | refine rn_block ?_ | refine rn_inBlock ?_ | refine rn_skip ?_ | refine rn_true rfl ?_ | refine rn_false rfl ?_ | refine rn_exit rfl ?_ | refine pl_not rfl rfl ?_)
        refine pl_val (.int .i64 s.a) rfl rfl (val_load1 hT rfl rfl rfl (hx6.cell rfl)) ?_
        repeat (first | refine pl_pure hT rfl rfl rfl ?_ | refine pl_nil ?_ | refine rn_seq ?_ | refine rn_plain ?_ | refine rn_block ?_ | refine rn_inBlock ?_ | refine rn_skip ?_ | refine rn_true rfl ?_ | refine rn_false rfl ?_ | refine rn_exit rfl ?_ | refine pl_not rfl rfl ?_)
        by_cases hsame : sa = a
        · subst hsame
          refine pl_val (.bool true) rfl rfl (val_int .i64 _ _ _ rfl rfl rfl (by simp [intOp, hsa]) w6) ?_
          repeat (first | refine pl_pure hT rfl rfl rfl ?_ | refine pl_nil ?_ | refine rn_seq ?_ | refine rn_plain ?_ | refine rn_block ?_ | refine rn_inBlock ?_ | refine rn_skip ?_ | refine rn_true rfl ?_ | refine rn_false rfl ?_ | refine rn_exit rfl ?_ | refine pl_not rfl rfl ?_)
          refine pl_val (.agg (ints s.ws).toArray) rfl rfl (val_load _ hT rfl rfl (by rw [ints_length, hw8]; rfl) (hx6.range (by simp [scell]))) ?_
          refine pl_op rfl rfl (opTo_buildSlice _ _ rfl rfl (slice_words hw8) ?_)
          have hk7 : Keep [] w6 (w6.alloc (.cells (ints s.ws).toArray 32)) := (Keep.refl _ _).alloc _
          have hb7 : Blk (w6.alloc (.cells (ints s.ws).toArray 32)) w6.heap.size (ints s.ws) 32 := Blk.new _ _ _
          generalize (w6.alloc (.cells (ints s.ws).toArray 32)) = w7 at *
          have hfl := forK_le L sa
          refine pl_op rfl rfl (opTo_append B 32 8 64 (wflat (forK L sa)) (ints s.ws) rfl rfl rfl (by decide +kernel) (by decide) (hk7.owns hwait6 (by simp)) (hb7.range (by simp)) (by rw [ints_length, hw8]) (ints_one _) (by decide)
            (by unfold maxLen; omega) (by omega) (by have := hk7.size; omega) ?_)
          intro g cap8 w8 hown hgrow hat hlt8
          have hk8 : Keep v8.ownBlock.toList w6 w8 := (hk7.of0).grown hgrow fun k e => .inl (by simp [e])
          have hfpv : ∀ k ∈ fpD B wv', k ∉ v8.ownBlock.toList := fun k hk hm => by
            simp only [Option.mem_toList] at hm
            exact (hn2 k hm).1 hk
          have hsz7 := hk7.size
          have hd8 := h6.keep hk8 hfpv
          have hheld8 := hk8.blk hheld6 (fun hm => by
            simp only [Option.mem_toList] at hm
            exact (hn2 hb hm).2 rfl)
          have hkw8 : Keep [] w w8 := hkw6.trans hk8 fun k hk => .inr (by
            simp only [Option.mem_toList] at hk
            have := (hv8 k hk).1
            omega)
          repeat (first | refine pl_pure hT rfl rfl rfl ?_ | refine pl_nil ?_ | refine rn_seq ?_ | refine rn_plain ?_ | refine rn_block ?_ | refine rn_inBlock ?_ | refine rn_skip ?_ | refine rn_true rfl ?_ | refine rn_false rfl ?_ | refine rn_exit rfl ?_ | refine pl_not rfl rfl ?_)
          refine pl_val (.int .i64 ((j + 1 : Nat) : Int)) rfl rfl (val_int .i64 j 1 _ rfl rfl rfl (by simp only [intOp]; rw [wrap_i64 (by omega) (by omega)]; rfl) w8) ?_
          repeat (first | refine pl_pure hT rfl rfl rfl ?_ | refine pl_nil ?_ | refine rn_seq ?_ | refine rn_plain ?_ | refine rn_block ?_ | refine rn_inBlock ?_ | refine rn_skip ?_ | refine rn_true rfl ?_ | refine rn_false rfl ?_ | refine rn_exit rfl ?_ | refine pl_not rfl rfl ?_)
          have hfk : forK (L ++ [(sa, s.ws)]) sa = forK L sa ++ [s.ws] := by simp [forK_snoc]
          refine rn_sub ?_ (hnext w8 S (L ++ [(sa, s.ws)]) wv' (.slice (some ⟨g, 0, none⟩) ((forK L sa).length + 1) cap8) ⟨hd8, hheld8, ?_, hn1, ?_, hI5.hbB⟩ hkw8 (by simp; omega))
          · exact ⟨rfl, rfl, rfl, rfl, rfl, rfl, rfl, trivial⟩
          · rw [hfk]
            simpa [wflat] using hown
          · intro k e
            simp only [Value.ownBlock, Option.some.injEq] at e
            subst e
            have hl6 := h6.lt
            rcases hat with hat | hat
            · exact hn2 g hat
            · exact ⟨fun hm => by have := (hl6 g hm).2; omega, by omega⟩
        · refine pl_val (.bool false) rfl rfl (val_int .i64 _ _ _ rfl rfl rfl (by simp [intOp, hsa]; omega) w6) ?_
          repeat (first | refine pl_pure hT rfl rfl rfl ?_ | refine pl_nil ?_ | refine rn_seq ?_ | refine rn_plain ?_ | refine rn_block ?_ | refine rn_inBlock ?_ | refine rn_skip ?_ | refine rn_true rfl ?_ | refine rn_false rfl ?_ | refine rn_exit rfl ?_ | refine pl_not rfl rfl ?_)
          refine pl_val (.int .i64 ((j + 1 : Nat) : Int)) rfl rfl (val_int .i64 j 1 _ rfl rfl rfl (by simp only [intOp]; rw [wrap_i64 (by omega) (by omega)]; rfl) w6) ?_
          repeat (first | refine pl_pure hT rfl rfl rfl ?_ | refine pl_nil ?_ | refine rn_seq ?_ | refine rn_plain ?_ | refine rn_block ?_ | refine rn_inBlock ?_ | refine rn_skip ?_ | refine rn_true rfl ?_ | refine rn_false rfl ?_ | refine rn_exit rfl ?_ | refine pl_not rfl rfl ?_)
          have hfk : forK (L ++ [(sa, s.ws)]) a = forK L a := by simp [forK_snoc, hsame]
          refine rn_sub ?_ (hnext w6 S (L ++ [(sa, s.ws)]) wv' v8 ⟨h6, hheld6, by rw [hfk]; exact hwait6, hn1, hn2, hI5.hbB⟩ hkw6 (by simp; omega))
          exact ⟨rfl, rfl, rfl, rfl, rfl, rfl, rfl, trivial⟩
    refine pl_val (.bool false) rfl rfl (val_int .i64 _ _ _ rfl rfl rfl (by simp [intOp, h0]) w5) ?_
    repeat (first | refine pl_pure hT rfl rfl rfl ?_ | refine pl_nil ?_ | refine rn_seq ?_ | refine rn_plain ?_ | refine rn_block ?_ | refine rn_inBlock ?_ | refine rn_skip ?_ | refine rn_true rfl ?_ | refine rn_false rfl ?_ | refine rn_exit rfl ?_ | refine pl_not rfl rfl ?_)
    by_cases h1 : s.d = 1
    · refine pl_val (.bool true) rfl rfl (val_int .i64 _ _ _ rfl rfl rfl (by simp [intOp, h1]) w5) ?_
      repeat (first | refine pl_pure hT rfl rfl rfl ?_ | refine pl_nil ?_ | refine rn_seq ?_ | refine rn_plain ?_ | refine rn_block ?_ | refine rn_inBlock ?_ | refine rn_skip ?_ | refine rn_true rfl ?_ | refine rn_false rfl ?_ | refine rn_exit rfl ?_ | refine pl_not rfl rfl ?_)
      refine pl_op rfl rfl (opTo_call rfl rfl rfl rfl (by decide +kernel) ((flush_ret hI5.disk (by omega)).mono ?_))
      rintro v w6 ⟨rfl, h6, hk6⟩
      have hbne : hb ∉ [B] := by
        have := hI5.n1
        simp only [fpD, List.mem_cons, not_or] at this
        simpa using this.1
      have hheld6 := hk6.blk hI5.held hbne
      have hkw6 : Keep [] w w6 := hkw5.trans hk6 fun k hk => .inr (by simp at hk; omega)
      repeat (first | refine pl_pure hT rfl rfl rfl ?_ | refine pl_nil ?_ | refine rn_seq ?_ | refine rn_plain ?_ | refine rn_block ?_ | refine rn_inBlock ?_ | refine rn_skip ?_ | refine rn_true rfl ?_ | refine rn_false rfl ?_ | refine rn_exit rfl ?_ | refine pl_not rfl rfl ?_)
      refine pl_op rfl rfl (opTo_call rfl rfl rfl rfl (by decide +kernel) ((read_ret h6 (by decide) a).mono ?_))
      rintro v w7 ⟨rfl, hk7⟩
      rw [readD_nil ha]
      have h7 := h6.keep hk7 (by simp)
      have hheld7 := hk7.blk hheld6 (by simp)
      have hl8 : (ints (sector (settled (fun _ => true) L S) a)).length = 8 := by rw [ints_length, sector_length h6.len ha]
      refine pl_op rfl rfl (opTo_store _ rfl rfl rfl rfl (by rw [hl8]; decide +kernel) hheld7 (by rw [hl8, ints_length, sector_length hS ha]; decide) (ints_one _) ?_)
      rw [splice_all (by rw [hl8, ints_length, sector_length hS ha])]
      have hk8 : Keep [hb] w7 (w7.setRow hb (ints (sector (settled (fun _ => true) L S) a)).toArray) := (Keep.refl _ _).setRow _ _ (.inl (by simp))
      have hheld8 := hheld7.set (ints (sector (settled (fun _ => true) L S) a))
      generalize (w7.setRow hb (ints (sector (settled (fun _ => true) L S) a)).toArray) = w8 at *
      have h8 := h7.keep hk8 (by intro k hk; simp [fpD, Value.ownBlock] at hk; subst hk; simp only [List.mem_singleton] at hbne ⊢; omega)
      have hbB := hI5.hbB
      have hkw8 : Keep [] w w8 := (hkw6.tr0 hk7).trans hk8 fun k hk => .inr (by simp at hk; omega)
      repeat (first | refine pl_pure hT rfl rfl rfl ?_ | refine pl_nil ?_ | refine rn_seq ?_ | refine rn_plain ?_ | refine rn_block ?_ | refine rn_inBlock ?_ | refine rn_skip ?_ | refine rn_true rfl ?_ | refine rn_false rfl ?_ | refine rn_exit rfl ?_ | refine pl_not rfl rfl ?_)
      refine pl_val (.int .i64 ((j + 1 : Nat) : Int)) rfl rfl (val_int .i64 j 1 _ rfl rfl rfl (by simp only [intOp]; rw [wrap_i64 (by omega) (by omega)]; rfl) w8) ?_
      repeat (first | refine pl_pure hT rfl rfl rfl ?_ | refine pl_nil ?_ | refine rn_seq ?_ | refine rn_plain ?_ | refine rn_block ?_ | refine rn_inBlock ?_ | refine rn_skip ?_ | refine rn_true rfl ?_ | refine rn_false rfl ?_ | refine rn_exit rfl ?_ | refine pl_not rfl rfl ?_)
      refine rn_sub ?_ (hnext w8 _ [] _ (.slice none 0 0) ⟨h8, hheld8, World.ownsRow_nil _ _ _ _, by simpa [fpD, Value.ownBlock] using hbne, by simp [Value.ownBlock], hbB⟩ hkw8 (Nat.zero_le _))
      exact ⟨rfl, rfl, rfl, rfl, rfl, rfl, rfl, trivial⟩
    refine pl_val (.bool false) rfl rfl (val_int .i64 _ _ _ rfl rfl rfl (by simp [intOp, h1]) w5) ?_
    repeat (first | refine pl_pure hT rfl rfl rfl ?_ | refine pl_nil ?_ | refine rn_seq ?_ | refine rn_plain ?_ | refine rn_block ?_ | refine rn_inBlock ?_ | refine rn_skip ?_ | refine rn_true rfl ?_ | refine rn_false rfl ?_ | refine rn_exit rfl ?_ | refine pl_not rfl rfl ?_)
    by_cases h2 : s.d = 2
    · refine pl_val (.bool true) rfl rfl (val_int .i64 _ _ _ rfl rfl rfl (by simp [intOp, h2]) w5) ?_
      repeat (first | refine pl_pure hT rfl rfl rfl ?_ | refine pl_nil ?_ | refine rn_seq ?_ | refine rn_plain ?_ | refine rn_block ?_ | refine rn_inBlock ?_ | refine rn_skip ?_ | refine rn_true rfl ?_ | refine rn_false rfl ?_ | refine rn_exit rfl ?_ | refine pl_not rfl rfl ?_)
      refine pl_val (.int .u64 s.m) rfl rfl (val_load1 hT rfl rfl rfl (hx5.cell (by simp [scell, ints_length, hw8]))) ?_
      refine pl_op rfl rfl (opTo_call rfl rfl rfl rfl (by decide +kernel) ((crash_ret hI5.disk (by omega) s.m).mono ?_))
      rintro v w6 ⟨rfl, h6, hk6⟩
      have hbne : hb ∉ [B] := by
        have := hI5.n1
        simp only [fpD, List.mem_cons, not_or] at this
        simpa using this.1
      have hheld6 := hk6.blk hI5.held hbne
      have hkw6 : Keep [] w w6 := hkw5.trans hk6 fun k hk => .inr (by simp at hk; omega)
      repeat (first | refine pl_pure hT rfl rfl rfl ?_ | refine pl_nil ?_ | refine rn_seq ?_ | refine rn_plain ?_ | refine rn_block ?_ | refine rn_inBlock ?_ | refine rn_skip ?_ | refine rn_true rfl ?_ | refine rn_false rfl ?_ | refine rn_exit rfl ?_ | refine pl_not rfl rfl ?_)
      refine pl_op rfl rfl (opTo_call rfl rfl rfl rfl (by decide +kernel) ((read_ret h6 (by decide) a).mono ?_))
      rintro v w7 ⟨rfl, hk7⟩
      rw [readD_nil ha]
      have h7 := h6.keep hk7 (by simp)
      have hheld7 := hk7.blk hheld6 (by simp)
      have hl8 : (ints (sector (settled (maskB s.m) L S) a)).length = 8 := by rw [ints_length, sector_length h6.len ha]
      refine pl_op rfl rfl (opTo_store _ rfl rfl rfl rfl (by rw [hl8]; decide +kernel) hheld7 (by rw [hl8, ints_length, sector_length hS ha]; decide) (ints_one _) ?_)
      rw [splice_all (by rw [hl8, ints_length, sector_length hS ha])]
      have hk8 : Keep [hb] w7 (w7.setRow hb (ints (sector (settled (maskB s.m) L S) a)).toArray) := (Keep.refl _ _).setRow _ _ (.inl (by simp))
      have hheld8 := hheld7.set (ints (sector (settled (maskB s.m) L S) a))
      generalize (w7.setRow hb (ints (sector (settled (maskB s.m) L S) a)).toArray) = w8 at *
      have h8 := h7.keep hk8 (by intro k hk; simp [fpD, Value.ownBlock] at hk; subst hk; simp only [List.mem_singleton] at hbne ⊢; omega)
      have hbB := hI5.hbB
      have hkw8 : Keep [] w w8 := (hkw6.tr0 hk7).trans hk8 fun k hk => .inr (by simp at hk; omega)
      repeat (first | refine pl_pure hT rfl rfl rfl ?_ | refine pl_nil ?_ | refine rn_seq ?_ | refine rn_plain ?_ | refine rn_block ?_ | refine rn_inBlock ?_ | refine rn_skip ?_ | refine rn_true rfl ?_ | refine rn_false rfl ?_ | refine rn_exit rfl ?_ | refine pl_not rfl rfl ?_)
      refine pl_val (.int .i64 ((j + 1 : Nat) : Int)) rfl rfl (val_int .i64 j 1 _ rfl rfl rfl (by simp only [intOp]; rw [wrap_i64 (by omega) (by omega)]; rfl) w8) ?_
      repeat (first | refine pl_pure hT rfl rfl rfl ?_ | refine pl_nil ?_ | refine rn_seq ?_ | refine rn_plain ?_ | refine rn_block ?_ | refine rn_inBlock ?_ | refine rn_skip ?_ | refine rn_true rfl ?_ | refine rn_false rfl ?_ | refine rn_exit rfl ?_ | refine pl_not rfl rfl ?_)
      refine rn_sub ?_ (hnext w8 _ [] _ (.slice none 0 0) ⟨h8, hheld8, World.ownsRow_nil _ _ _ _, by simpa [fpD, Value.ownBlock] using hbne, by simp [Value.ownBlock], hbB⟩ hkw8 (Nat.zero_le _))
      exact ⟨rfl, rfl, rfl, rfl, rfl, rfl, rfl, trivial⟩
    refine pl_val (.bool false) rfl rfl (val_int .i64 _ _ _ rfl rfl rfl (by simp [intOp, h2]) w5) ?_
    repeat (first | refine pl_pure hT rfl rfl rfl ?_ | refine pl_nil ?_ | refine rn_seq ?_ | refine rn_plain ?_ | refine rn_block ?_ | refine rn_inBlock ?_ | refine rn_skip ?_ | refine rn_true rfl ?_ | refine rn_false rfl ?_ | refine rn_exit rfl ?_ | refine pl_not rfl rfl ?_)
    refine pl_val (.int .i64 ((j + 1 : Nat) : Int)) rfl rfl (val_int .i64 j 1 _ rfl rfl rfl (by simp only [intOp]; rw [wrap_i64 (by omega) (by omega)]; rfl) w5) ?_
    repeat (first | refine pl_pure hT rfl rfl rfl ?_ | refine pl_nil ?_ | refine rn_seq ?_ | refine rn_plain ?_ | refine rn_block ?_ | refine rn_inBlock ?_ | refine rn_skip ?_ | refine rn_true rfl ?_ | refine rn_false rfl ?_ | refine rn_exit rfl ?_ | refine pl_not rfl rfl ?_)
    refine rn_sub ?_ (hnext w5 S L wv v8 hI5 hkw5 (by omega))
    exact ⟨rfl, rfl, rfl, rfl, rfl, rfl, rfl, trivial⟩
  refine pl_val (.bool false) rfl rfl (val_int .i64 _ _ _ rfl rfl rfl (by simp [intOp]; omega) w3) ?_
  clear ih
  repeat (first | refine pl_pure hT rfl rfl rfl ?_ | refine pl_nil ?_ | refine rn_seq ?_ | refine rn_plain ?_ | refine rn_block ?_ | refine rn_inBlock ?_ | refine rn_skip ?_ | refine rn_true rfl ?_ | refine rn_false rfl ?_ | refine rn_exit rfl ?_ | refine pl_not rfl rfl ?_)
  have hL : L.length < 1000000 := by omega
  refine pl_op rfl rfl (opTo_call rfl rfl rfl rfl (by decide +kernel) ((read_ret hI.disk hL a).mono ?_))
  rintro v w4 ⟨rfl, hk4⟩
  have hwas := readD_len (k := a) hS hwf
  generalize hwasd : readD S L (a : Int) = was at *
  have hI4 := hI.keep hk4
  have hkw4 := hk3.tr0 hk4
  have hlw : (ints was).length = 8 := by rw [ints_length, hwas]
  refine pl_op rfl rfl (opTo_alloc _ rfl zero_words ?_)
  have hk5 : Keep [] w4 (w4.alloc (.cells (ints (List.replicate 8 0)).toArray 32)) := (Keep.refl _ _).alloc _
  have hx5 : Blk (w4.alloc (.cells (ints (List.replicate 8 0)).toArray 32)) w4.heap.size (ints (List.replicate 8 0)) 32 := Blk.new _ _ _
  generalize (w4.alloc (.cells (ints (List.replicate 8 0)).toArray 32)) = w5 at *
  refine pl_op rfl rfl (opTo_store _ rfl rfl rfl rfl (by rw [hlw]; decide +kernel) hx5 (by rw [hlw]; decide) (ints_one _) ?_)
  rw [splice_all (by rw [hlw]; rfl)]
  have hk6 : Keep [] w4 (w5.setRow w4.heap.size (ints was).toArray) := hk5.setRow _ _ (.inr (Nat.le_refl _))
  have hwas6 := hx5.set (ints was)
  generalize (w5.setRow w4.heap.size (ints was).toArray) = w6 at *
  have hI6 := hI4.keep hk6
  have hkw6 := hkw4.tr0 hk6
  have hwB : B < w4.heap.size := hI4.disk.blk.lt
  generalize w4.heap.size = wb at *
  clear hI hI4 hk3 hk4 hk5 hk6 hx5 hkw4
  repeat (first | refine pl_pure hT rfl rfl rfl ?_ | refine pl_nil ?_ | refine rn_seq ?_ | refine rn_plain ?_ | refine rn_block ?_ | refine rn_inBlock ?_ | refine rn_skip ?_ | refine rn_true rfl ?_ | refine rn_false rfl ?_ | refine rn_exit rfl ?_ | refine pl_not rfl rfl ?_)
  refine pl_op rfl rfl (opTo_call rfl rfl rfl rfl (by decide +kernel) ((crash_ret hI6.disk hL mask).mono ?_))
  rintro v w7 ⟨rfl, h7, hk7⟩
  have hbne : hb ∉ [B] := by
    have := hI6.n1
    simp only [fpD, List.mem_cons, not_or] at this
    simpa using this.1
  have hheld7 := hk7.blk hI6.held hbne
  have hwas7 := hk7.blk hwas6 (by simp; omega)
  have hwait7 := hk7.owns hI6.wait fun k e => by
    have := (hI6.n2 k e).1
    simp only [fpD, List.mem_cons, not_or] at this
    simpa using this.1
  have hkw7 : Keep [] w w7 := hkw6.trans hk7 fun k hk => .inr (by simp at hk; omega)
  have hor := sector_settled (stays := maskB mask) hS hwf ha
  have hall : mask = 18446744073709551615 → sector (settled (maskB mask) L S) a = was := fun e => by
    rw [e, maskB_all, sector_flush hS hwf ha, hwasd]
  have hfl := forK_le L a
  have hfk := forK_len (k := a) hwf
  clear hI6 hkw6 hwas6
  generalize settled (maskB mask) L S = S7 at *
  repeat (first | refine pl_pure hT rfl rfl rfl ?_ | refine pl_nil ?_ | refine rn_seq ?_ | refine rn_plain ?_ | refine rn_block ?_ | refine rn_inBlock ?_ | refine rn_skip ?_ | refine rn_true rfl ?_ | refine rn_false rfl ?_ | refine rn_exit rfl ?_ | refine pl_not rfl rfl ?_)
  refine pl_op rfl rfl (opTo_call rfl rfl rfl rfl (by decide +kernel) ((read_ret h7 (by decide) a).mono ?_))
  rintro v w8 ⟨rfl, hk8⟩
  rw [readD_nil ha]
  have hnow := sector_length h7.len ha
  have hln : (ints (sector S7 a)).length = 8 := by rw [ints_length, hnow]
  have h8 := h7.keep hk8 (by simp)
  refine pl_op rfl rfl (opTo_alloc _ rfl zero_words ?_)
  have hk9 : Keep [] w8 (w8.alloc (.cells (ints (List.replicate 8 0)).toArray 32)) := (Keep.refl _ _).alloc _
  have hx9 : Blk (w8.alloc (.cells (ints (List.replicate 8 0)).toArray 32)) w8.heap.size (ints (List.replicate 8 0)) 32 := Blk.new _ _ _
  generalize (w8.alloc (.cells (ints (List.replicate 8 0)).toArray 32)) = w9 at *
  refine pl_op rfl rfl (opTo_store _ rfl rfl rfl rfl (by rw [hln]; decide +kernel) hx9 (by rw [hln]; decide) (ints_one _) ?_)
  rw [splice_all (by rw [hln]; rfl)]
  have hk10 : Keep [] w8 (w9.setRow w8.heap.size (ints (sector S7 a)).toArray) := hk9.setRow _ _ (.inr (Nat.le_refl _))
  have hnow10 := hx9.set (ints (sector S7 a))
  generalize (w9.setRow w8.heap.size (ints (sector S7 a)).toArray) = w10 at *
  generalize w8.heap.size = nb at *
  have hk7' := hk8.tr0 hk10
  have h10 := h7.keep hk7' (by simp)
  have hheld10 := hk7'.blk hheld7 (by simp)
  have hwas10 := hk7'.blk hwas7 (by simp)
  have hwait10 := hk7'.owns hwait7 (by simp)
  have hkw10 := hkw7.tr0 hk7'
  have hheldl := sector_length hS ha
  clear hk8 hk9 hk10 hx9 h7 h8 hheld7 hwas7 hwait7 hkw7 hk7 hk7'
  repeat (first | refine pl_pure hT rfl rfl rfl ?_ | refine pl_nil ?_ | refine rn_seq ?_ | refine rn_plain ?_ | refine rn_block ?_ | refine rn_inBlock ?_ | refine rn_skip ?_ | refine rn_true rfl ?_ | refine rn_false rfl ?_ | refine rn_exit rfl ?_ | refine pl_not rfl rfl ?_)
  refine pl_val (.agg (ints (sector S7 a)).toArray) rfl rfl (val_load _ hT rfl rfl (by rw [hln]; rfl) (hnow10.range (by simp))) ?_
  refine pl_val (.agg (ints (sector S a)).toArray) rfl rfl (val_load _ hT rfl rfl (by rw [ints_length, hheldl]; rfl) (hheld10.range (by simp))) ?_
  refine pl_val (.bool (decide (sector S7 a = sector S a))) rfl rfl (val_eqInts _ _ arrW rfl rfl rfl hnow hheldl _ rfl w10) ?_
  repeat (first | refine pl_pure hT rfl rfl rfl ?_ | refine pl_nil ?_ | refine rn_seq ?_ | refine rn_plain ?_ | refine rn_block ?_ | refine rn_inBlock ?_ | refine rn_skip ?_ | refine rn_true rfl ?_ | refine rn_false rfl ?_ | refine rn_exit rfl ?_ | refine pl_not rfl rfl ?_)
  have hv8 : ∃ x c, v8 = .slice x (forK L a).length c := by
    rcases hwait10.2 with ⟨e1, e2⟩ | ⟨g, c, cur, e1, _⟩
    · exact ⟨none, 0, by rw [e1, e2]⟩
    · exact ⟨_, c, e1⟩
  obtain ⟨x8, c8, hv8⟩ := hv8
  generalize forK L a = K at *
  generalize hnoweq : sector S7 a = now at *
  generalize sector S a = held at *
  refine rn_ind (fun m σ w' => ∃ i, m = K.length - i ∧ i ≤ K.length ∧ σ = [(1, .int .u64 mask), (2, .int .i64 (a : Nat)), (7, .pointer (some ⟨B, 0, none⟩)), (8, v8), (12, .pointer (some ⟨wb, 0, none⟩)), (13, .pointer (some ⟨nb, 0, none⟩)), (14, .bool (decide (now = held) || (K.take i).any (fun y => decide (now = y)))), (15, .int .i64 (i : Nat))] ∧ Keep [] w10 w')
    (K.length - 0) _ ?_ ⟨0, rfl, Nat.zero_le _, rfl, Keep.refl _ _⟩ ?_
  · exact ⟨rfl, rfl, rfl, rfl, rfl, rfl, by simp [look, put], rfl, trivial⟩
  rintro m σ w11 ih ⟨i, hm, hi, rfl, hk11⟩
  repeat (first | refine pl_pure hT rfl rfl rfl ?_ | refine pl_nil ?_ | refine rn_seq ?_ | refine rn_plain ?_ | refine rn_block ?_ | refine rn_inBlock ?_ | refine rn_skip ?_ | refine rn_true rfl ?_ | refine rn_false rfl ?_ | refine rn_exit rfl ?_ | refine pl_not rfl rfl ?_)
  refine pl_val (.int .i64 K.length) rfl rfl (val_pure hT (by subst hv8; rfl) w11) ?_
  rcases Nat.lt_or_ge i K.length with hlt | hge
  · refine pl_val (.bool true) rfl rfl (val_int .i64 _ _ _ rfl rfl rfl (by simp [intOp]; omega) w11) ?_
    repeat (first | refine pl_pure hT rfl rfl rfl ?_ | refine pl_nil ?_ | refine rn_seq ?_ | refine rn_plain ?_ | refine rn_block ?_ | refine rn_inBlock ?_ | refine rn_skip ?_ | refine rn_true rfl ?_ | refine rn_false rfl ?_ | refine rn_exit rfl ?_ | refine pl_not rfl rfl ?_)
    obtain ⟨y, hy⟩ : ∃ y, K[i]? = some y := ⟨K[i], List.getElem?_eq_getElem hlt⟩
    have hy8 := hfk y (List.mem_of_getElem? hy)
    have hly : (ints y).length = 8 := by rw [ints_length, hy8]
    have hnx : (decide (now = held) || (K.take (i + 1)).any (fun y => decide (now = y))) = (decide (now = held) || (K.take i).any (fun y => decide (now = y)) || decide (now = y)) := by
      rw [List.take_succ_eq_append_getElem hlt, (List.getElem?_eq_some_iff.1 hy).2, List.any_append]
      simp [Bool.or_assoc]
    have hS11 : Keep [] w11 w11.drew := (Keep.refl _ _).drew
    refine rn_draw (fun w' => Keep [] w11 w') [] hMix ?_
    cases hok : (decide (now = held) || (K.take i).any (fun y => decide (now = y))) with
    | true =>
      refine dr_pure 0 hT rfl (by decide +kernel) rfl rfl rfl ?_
      refine dr_pure 1 hT rfl (by decide +kernel) rfl rfl rfl ?_
      refine dr_not 2 rfl (by decide +kernel) rfl rfl ?_
      refine dr_not 3 rfl (by decide +kernel) rfl rfl ?_
      refine dr_not 4 rfl (by decide +kernel) rfl rfl ?_
      refine dr_not 5 rfl (by decide +kernel) rfl rfl ?_
      refine dr_not 6 rfl (by decide +kernel) rfl rfl ?_
      refine dr_not 7 rfl (by decide +kernel) rfl rfl ?_
      refine dr_pure 8 hT rfl (by decide +kernel) rfl rfl rfl ?_
      refine dr_pure 9 hT rfl (by decide +kernel) rfl rfl rfl ?_
      refine dr_done (by decide +kernel) ?_
      repeat (first | refine pl_pure hT rfl rfl rfl ?_ | refine pl_nil ?_ | refine rn_seq ?_ | refine rn_plain ?_ | refine rn_block ?_ | refine rn_inBlock ?_ | refine rn_skip ?_ | refine rn_true rfl ?_ | refine rn_false rfl ?_ | refine rn_exit rfl ?_ | refine pl_not rfl rfl ?_)
      refine pl_val (.int .i64 ((i + 1 : Nat) : Int)) rfl rfl (val_int .i64 i 1 _ rfl rfl rfl (by simp only [intOp]; rw [wrap_i64 (by omega) (by omega)]; rfl) _) ?_
      repeat (first | refine pl_pure hT rfl rfl rfl ?_ | refine pl_nil ?_ | refine rn_seq ?_ | refine rn_plain ?_ | refine rn_block ?_ | refine rn_inBlock ?_ | refine rn_skip ?_ | refine rn_true rfl ?_ | refine rn_false rfl ?_ | refine rn_exit rfl ?_ | refine pl_not rfl rfl ?_)
      refine rn_sub ?_ (ih (K.length - (i + 1)) _ _ (by omega) ⟨i + 1, rfl, hlt, rfl, hk11.tr0 hS11⟩)
      rw [hnx, hok]
      exact ⟨rfl, rfl, rfl, rfl, rfl, rfl, rfl, rfl, trivial⟩
    | false =>
      obtain ⟨g8, hg8, hr8⟩ : ∃ g8, v8 = .slice (some ⟨g8, 0, none⟩) K.length c8 ∧ ∀ w', Keep [] w11 w' → w'.rangeAt g8 (0 + i * 8) (ints y) := by
        rcases hwait10.2 with ⟨_, e2⟩ | ⟨g, c, cur, e1, _⟩
        · omega
        · have hc : c = c8 := by rw [e1] at hv8; injection hv8
          subst hc
          refine ⟨g, e1, fun w' hk' => ?_⟩
          have ho := (hk11.tr0 hk').owns hwait10 (by simp)
          rw [e1] at ho
          refine owns_range ho ?_
          rw [hly, Nat.zero_add]
          exact wflat_at hfk hy
      refine dr_pure 0 hT rfl (by decide +kernel) rfl rfl rfl ?_
      refine dr_pure 1 hT rfl (by decide +kernel) rfl rfl rfl ?_
      refine dr_val 2 (.agg (ints now).toArray) rfl (by decide +kernel) rfl rfl (fun w' hk' => val_load _ hT rfl rfl (by rw [hln]; rfl) (((hk11.tr0 hk').blk hnow10 (by simp)).range (by simp))) hS11 ?_
      refine dr_pure 3 hT rfl (by decide +kernel) rfl rfl rfl ?_
      refine dr_pure 4 hT rfl (by decide +kernel) rfl rfl rfl ?_
      refine dr_val 5 _ rfl (by decide +kernel) rfl rfl (fun w' _ => val_index i hT rfl (by rw [hg8]; rfl) rfl rfl rfl hlt w') hS11 ?_
      refine dr_val 6 (.agg (ints y).toArray) rfl (by decide +kernel) rfl rfl (fun w' hk' => val_load _ hT rfl rfl (by rw [hly]; rfl) (hr8 w' hk')) hS11 ?_
      refine dr_val 7 (.bool (decide (now = y))) rfl (by decide +kernel) rfl rfl (fun w' _ => val_eqInts _ _ arrW rfl rfl rfl hnow hy8 _ rfl w') hS11 ?_
      refine dr_pure 8 hT rfl (by decide +kernel) rfl rfl rfl ?_
      refine dr_pure 9 hT rfl (by decide +kernel) rfl rfl rfl ?_
      refine dr_done (by decide +kernel) ?_
      repeat (first | refine pl_pure hT rfl rfl rfl ?_ | refine pl_nil ?_ | refine rn_seq ?_ | refine rn_plain ?_ | refine rn_block ?_ | refine rn_inBlock ?_ | refine rn_skip ?_ | refine rn_true rfl ?_ | refine rn_false rfl ?_ | refine rn_exit rfl ?_ | refine pl_not rfl rfl ?_)
      refine pl_val (.int .i64 ((i + 1 : Nat) : Int)) rfl rfl (val_int .i64 i 1 _ rfl rfl rfl (by simp only [intOp]; rw [wrap_i64 (by omega) (by omega)]; rfl) _) ?_
      repeat (first | refine pl_pure hT rfl rfl rfl ?_ | refine pl_nil ?_ | refine rn_seq ?_ | refine rn_plain ?_ | refine rn_block ?_ | refine rn_inBlock ?_ | refine rn_skip ?_ | refine rn_true rfl ?_ | refine rn_false rfl ?_ | refine rn_exit rfl ?_ | refine pl_not rfl rfl ?_)
      refine rn_sub ?_ (ih (K.length - (i + 1)) _ _ (by omega) ⟨i + 1, rfl, hlt, rfl, hk11.tr0 hS11⟩)
      rw [hnx, hok]
      exact ⟨rfl, rfl, rfl, rfl, rfl, rfl, rfl, rfl, trivial⟩
  clear ih
  have hii : i = K.length := by omega
  subst hii
  have hok : (decide (now = held) || (K.take K.length).any (fun y => decide (now = y))) = true := by
    rw [List.take_length]
    rcases hor with h | h
    · simp [h]
    · simp only [Bool.or_eq_true, List.any_eq_true, decide_eq_true_eq]
      exact .inr ⟨now, h, rfl⟩
  rw [hok]
  have h11 := h10.keep hk11 (by simp)
  have hkw11 := hkw10.tr0 hk11
  have hnow11 := hk11.blk hnow10 (by simp)
  have hwas11 := hk11.blk hwas10 (by simp)
  refine pl_val (.bool false) rfl rfl (val_int .i64 _ _ _ rfl rfl rfl (by simp [intOp]) w11) ?_
  repeat (first | refine pl_pure hT rfl rfl rfl ?_ | refine pl_nil ?_ | refine rn_seq ?_ | refine rn_plain ?_ | refine rn_block ?_ | refine rn_inBlock ?_ | refine rn_skip ?_ | refine rn_true rfl ?_ | refine rn_false rfl ?_ | refine rn_exit rfl ?_ | refine pl_not rfl rfl ?_)
  refine pl_op rfl rfl (opTo_call rfl rfl rfl rfl (by decide +kernel) ((sure_ret h11).mono ?_))
  rintro v w12 ⟨gs, cs, rfl, hos, hk12⟩
  have h12 := h11.keep hk12 (by simp)
  have hkw12 := hkw11.tr0 hk12
  have hnow12 := hk12.blk hnow11 (by simp)
  have hwas12 := hk12.blk hwas11 (by simp)
  have hS12 : Keep [] w12 w12.drew := (Keep.refl _ _).drew
  repeat (first | refine pl_pure hT rfl rfl rfl ?_ | refine pl_nil ?_ | refine rn_seq ?_ | refine rn_plain ?_ | refine rn_block ?_ | refine rn_inBlock ?_ | refine rn_skip ?_ | refine rn_true rfl ?_ | refine rn_false rfl ?_ | refine rn_exit rfl ?_ | refine pl_not rfl rfl ?_)
  refine rn_draw (fun w' => Keep [] w12 w') [] hMix ?_
  refine dr_pure 0 hT rfl (by decide +kernel) rfl rfl rfl ?_
  refine dr_pure 1 hT rfl (by decide +kernel) rfl rfl rfl ?_
  refine dr_pure 2 hT rfl (by decide +kernel) rfl rfl rfl ?_
  by_cases hmask : mask = 18446744073709551615
  · have hnw := hall hmask
    refine dr_val 3 (.bool false) rfl (by decide +kernel) rfl rfl (fun w' _ => val_int .u64 _ _ _ rfl rfl rfl (by simp [intOp, hmask]) w') hS12 ?_
    refine dr_pure 4 hT rfl (by decide +kernel) rfl rfl rfl ?_
    refine dr_val 5 (.agg (ints now).toArray) rfl (by decide +kernel) rfl rfl (fun w' hk' => val_load _ hT rfl rfl (by rw [hln]; rfl) ((hk'.blk hnow12 (by simp)).range (by simp))) hS12 ?_
    refine dr_val 6 (.agg (ints was).toArray) rfl (by decide +kernel) rfl rfl (fun w' hk' => val_load _ hT rfl rfl (by rw [hlw]; rfl) ((hk'.blk hwas12 (by simp)).range (by simp))) hS12 ?_
    refine dr_val 7 (.bool true) rfl (by decide +kernel) rfl rfl (fun w' _ => val_eqInts _ _ arrW rfl rfl rfl hnow hwas _ (by simp [hnw]) w') hS12 ?_
    refine dr_pure 8 hT rfl (by decide +kernel) rfl rfl rfl ?_
    refine dr_pure 9 hT rfl (by decide +kernel) rfl rfl rfl ?_
    refine dr_pure 10 hT rfl (by decide +kernel) rfl rfl rfl ?_
    refine dr_pure 11 hT rfl (by decide +kernel) rfl rfl rfl ?_
    refine dr_pure 12 hT rfl (by decide +kernel) rfl rfl rfl ?_
    refine dr_val 13 (.bool true) rfl (by decide +kernel) rfl rfl (fun w' _ => val_int .i64 34 34 _ rfl rfl rfl rfl w') hS12 ?_
    refine dr_pure 14 hT rfl (by decide +kernel) rfl rfl rfl ?_
    refine dr_pure 15 hT rfl (by decide +kernel) rfl rfl rfl ?_
    refine dr_pure 16 hT rfl (by decide +kernel) rfl rfl rfl ?_
    refine dr_pure 17 hT rfl (by decide +kernel) rfl rfl rfl ?_
    refine dr_val 18 _ rfl (by decide +kernel) rfl rfl (fun w' _ => val_index a hT rfl rfl rfl rfl rfl ha w') hS12 ?_
    refine dr_val 19 (.agg (ints now).toArray) rfl (by decide +kernel) rfl rfl (fun w' hk' => val_load _ hT rfl rfl (by rw [hln]; rfl) (by rw [← hnoweq]; exact sure_at (hk'.owns hos (by simp)) h11.len ha)) hS12 ?_
    refine dr_val 20 (.agg (ints now).toArray) rfl (by decide +kernel) rfl rfl (fun w' hk' => val_load _ hT rfl rfl (by rw [hln]; rfl) ((hk'.blk hnow12 (by simp)).range (by simp))) hS12 ?_
    refine dr_val 21 (.bool true) rfl (by decide +kernel) rfl rfl (fun w' _ => val_eqInts _ _ arrW rfl rfl rfl hnow hnow _ (by simp) w') hS12 ?_
    refine dr_pure 22 hT rfl (by decide +kernel) rfl rfl rfl ?_
    refine dr_pure 23 hT rfl (by decide +kernel) rfl rfl rfl ?_
    refine dr_pure 24 hT rfl (by decide +kernel) rfl rfl rfl ?_
    refine dr_op 25 rfl (by decide +kernel) rfl rfl (opTo_call rfl rfl rfl rfl (by decide +kernel) ((wait_ret (h12.keep hS12 (by simp))).mono ?_))
    rintro v w13 ⟨rfl, rfl⟩
    refine ⟨fun _ => hS12, ?_⟩
    refine dr_val 26 (.bool true) rfl (by decide +kernel) rfl rfl (fun w' _ => val_int .i64 0 0 _ rfl rfl rfl rfl w') hS12 ?_
    refine dr_pure 27 hT rfl (by decide +kernel) rfl rfl rfl ?_
    refine dr_pure 28 hT rfl (by decide +kernel) rfl rfl rfl ?_
    refine dr_done (by decide +kernel) ?_
    repeat (first | refine pl_pure hT rfl rfl rfl ?_ | refine pl_nil ?_ | refine rn_seq ?_ | refine rn_plain ?_ | refine rn_block ?_ | refine rn_inBlock ?_ | refine rn_skip ?_ | refine rn_true rfl ?_ | refine rn_false rfl ?_ | refine rn_exit rfl ?_ | refine pl_not rfl rfl ?_)
    exact rn_ret Try.func4 (.inl ⟨_, rfl, rfl⟩) ⟨rfl, hkw12.tr0 hS12⟩
  · refine dr_val 3 (.bool true) rfl (by decide +kernel) rfl rfl (fun w' _ => val_int .u64 _ _ _ rfl rfl rfl (by simp [intOp, hmask]) w') hS12 ?_
    refine dr_pure 4 hT rfl (by decide +kernel) rfl rfl rfl ?_
    refine dr_not 5 rfl (by decide +kernel) rfl rfl ?_
    refine dr_not 6 rfl (by decide +kernel) rfl rfl ?_
    refine dr_not 7 rfl (by decide +kernel) rfl rfl ?_
    refine dr_pure 8 hT rfl (by decide +kernel) rfl rfl rfl ?_
    refine dr_pure 9 hT rfl (by decide +kernel) rfl rfl rfl ?_
    refine dr_pure 10 hT rfl (by decide +kernel) rfl rfl rfl ?_
    refine dr_pure 11 hT rfl (by decide +kernel) rfl rfl rfl ?_
    refine dr_pure 12 hT rfl (by decide +kernel) rfl rfl rfl ?_
    refine dr_val 13 (.bool true) rfl (by decide +kernel) rfl rfl (fun w' _ => val_int .i64 34 34 _ rfl rfl rfl rfl w') hS12 ?_
    refine dr_pure 14 hT rfl (by decide +kernel) rfl rfl rfl ?_
    refine dr_pure 15 hT rfl (by decide +kernel) rfl rfl rfl ?_
    refine dr_pure 16 hT rfl (by decide +kernel) rfl rfl rfl ?_
    refine dr_pure 17 hT rfl (by decide +kernel) rfl rfl rfl ?_
    refine dr_val 18 _ rfl (by decide +kernel) rfl rfl (fun w' _ => val_index a hT rfl rfl rfl rfl rfl ha w') hS12 ?_
    refine dr_val 19 (.agg (ints now).toArray) rfl (by decide +kernel) rfl rfl (fun w' hk' => val_load _ hT rfl rfl (by rw [hln]; rfl) (by rw [← hnoweq]; exact sure_at (hk'.owns hos (by simp)) h11.len ha)) hS12 ?_
    refine dr_val 20 (.agg (ints now).toArray) rfl (by decide +kernel) rfl rfl (fun w' hk' => val_load _ hT rfl rfl (by rw [hln]; rfl) ((hk'.blk hnow12 (by simp)).range (by simp))) hS12 ?_
    refine dr_val 21 (.bool true) rfl (by decide +kernel) rfl rfl (fun w' _ => val_eqInts _ _ arrW rfl rfl rfl hnow hnow _ (by simp) w') hS12 ?_
    refine dr_pure 22 hT rfl (by decide +kernel) rfl rfl rfl ?_
    refine dr_pure 23 hT rfl (by decide +kernel) rfl rfl rfl ?_
    refine dr_pure 24 hT rfl (by decide +kernel) rfl rfl rfl ?_
    refine dr_op 25 rfl (by decide +kernel) rfl rfl (opTo_call rfl rfl rfl rfl (by decide +kernel) ((wait_ret (h12.keep hS12 (by simp))).mono ?_))
    rintro v w13 ⟨rfl, rfl⟩
    refine ⟨fun _ => hS12, ?_⟩
    refine dr_val 26 (.bool true) rfl (by decide +kernel) rfl rfl (fun w' _ => val_int .i64 0 0 _ rfl rfl rfl rfl w') hS12 ?_
    refine dr_pure 27 hT rfl (by decide +kernel) rfl rfl rfl ?_
    refine dr_pure 28 hT rfl (by decide +kernel) rfl rfl rfl ?_
    refine dr_done (by decide +kernel) ?_
    repeat (first | refine pl_pure hT rfl rfl rfl ?_ | refine pl_nil ?_ | refine rn_seq ?_ | refine rn_plain ?_ | refine rn_block ?_ | refine rn_inBlock ?_ | refine rn_skip ?_ | refine rn_true rfl ?_ | refine rn_false rfl ?_ | refine rn_exit rfl ?_ | refine pl_not rfl rfl ?_)
    exact rn_ret Try.func4 (.inl ⟨_, rfl, rfl⟩) ⟨rfl, hkw12.tr0 hS12⟩
end E
end Go.Proofs.Ytoegglcdpdohdaa
