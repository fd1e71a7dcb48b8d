/- The contracts of a memory's page, Dirty, New. -/
import Derived.Test.YtcnjmjdnlhiflabMoA
namespace Go.Proofs.Ytcnjmjdnlhiflab
set_option maxRecDepth 20000
namespace E
open Go.Proofs

theorem built_pg0 (i : Int) : Try.prog.built 43 [(0, Value.int .i64 i)] = some (pcell (i, List.replicate 8 0)).toArray := by kernel_rfl

section
variable {w : World} {m s : Nat} {W : List Int} {D : List Bool}

theorem page_ret (h : MemV w m s W D) {n : Nat} (hn : n < 14) : Ret Try.prog 43 [.pointer (some ⟨m, 0, none⟩), .int .i64 (n : Nat)] w fun v w' => v = .agg (pcell ((n : Nat), page W n)).toArray ∧ Keep [] w w' := by
  refine ret_of 18 Try.func43 rfl rfl (by simp) ?_
  repeat (first | refine pl_pure hT rfl rfl rfl ?_ | refine pl_nil ?_ | refine rn_seq ?_ | refine rn_plain ?_ | refine rn_block ?_ | refine rn_inBlock ?_ | refine rn_skip ?_ | refine rn_true rfl ?_ | refine rn_false rfl ?_ | refine rn_exit rfl ?_ | refine pl_not rfl rfl ?_)
  refine pl_op rfl rfl (opTo_alloc _ rfl zero_page ?_)
  have hk1 : Keep [] w (w.alloc (.cells (pcell (0, List.replicate 8 0)).toArray 43)) := (Keep.refl _ _).alloc _
  have hr1 := Blk.new w (pcell (0, List.replicate 8 0)) 43
  generalize (w.alloc (.cells (pcell (0, List.replicate 8 0)).toArray 43)) = w1 at *
  repeat (first | refine pl_pure hT rfl rfl rfl ?_ | refine pl_nil ?_ | refine rn_seq ?_ | refine rn_plain ?_ | refine rn_block ?_ | refine rn_inBlock ?_ | refine rn_skip ?_ | refine rn_true rfl ?_ | refine rn_false rfl ?_ | refine rn_exit rfl ?_ | refine pl_not rfl rfl ?_)
  refine pl_val _ rfl rfl (val_build _ rfl rfl (built_pg0 (n : Nat)) w1) ?_
  refine pl_op rfl rfl (opTo_alloc _ rfl zero_page ?_)
  have hk2 := hk1.alloc (.cells (pcell (0, List.replicate 8 0)).toArray 43)
  have hr2 := hr1.alloc (.cells (pcell (0, List.replicate 8 0)).toArray 43)
  have hp2 := Blk.new w1 (pcell (0, List.replicate 8 0)) 43
  have hne : w.heap.size ≠ w1.heap.size := by have := hr1.lt; omega
  have hle := hk1.size
  generalize (w1.alloc (.cells (pcell (0, List.replicate 8 0)).toArray 43)) = w2 at *
  generalize w1.heap.size = p at *
  refine pl_op rfl rfl (opTo_store (pcell ((n : Nat), List.replicate 8 0)) rfl rfl rfl rfl (by rw [pcell_length rfl]; decide +kernel) hp2 (by rw [pcell_length rfl]; decide) (pcell_one _) ?_)
  rw [splice_all (by rfl)]
  have hk3 := hk2.setRow p (pcell ((n : Nat), List.replicate 8 0)).toArray (.inr hle)
  have hr3 := hr2.other (pcell ((n : Nat), List.replicate 8 0)).toArray hne
  have hp3 := hp2.set (pcell ((n : Nat), List.replicate 8 0))
  generalize (w2.setRow p (pcell ((n : Nat), List.replicate 8 0)).toArray) = w3 at *
  clear hk1 hk2 hr1 hr2 hp2
  repeat (first | refine pl_pure hT rfl rfl rfl ?_ | refine pl_nil ?_ | refine rn_seq ?_ | refine rn_plain ?_ | refine rn_block ?_ | refine rn_inBlock ?_ | refine rn_skip ?_ | refine rn_true rfl ?_ | refine rn_false rfl ?_ | refine rn_exit rfl ?_ | refine pl_not rfl rfl ?_)
  refine rn_draw (fun _ => True) [] hMix ?_
  refine dr_pure 0 hT rfl (by decide +kernel) rfl rfl rfl ?_
  refine dr_any 1 _ rfl (by decide +kernel) rfl rfl (fun w' => val_sliceArr hT rfl rfl rfl w') ?_
  refine dr_pure 2 hT rfl (by decide +kernel) rfl rfl rfl ?_
  refine dr_pure 3 hT rfl (by decide +kernel) rfl rfl rfl ?_
  refine dr_pure 4 hT rfl (by decide +kernel) rfl rfl rfl ?_
  refine dr_pure 5 hT rfl (by decide +kernel) rfl rfl rfl ?_
  refine dr_any 6 (.int .i64 ((n * 8 : Nat) : Int)) rfl (by decide +kernel) rfl rfl (fun w' => val_int .i64 n 8 _ rfl rfl rfl (by simp only [intOp]; rw [wrap_i64 (by omega) (by omega)]; simp) w') ?_
  refine dr_any 7 _ rfl (by decide +kernel) rfl rfl (fun w' => val_sliceArrFrom (n * 8) hT rfl rfl rfl rfl rfl (by omega) w') ?_
  have hm3 := (h.keep hk3 (by simp)).blk
  have hm4 : Blk w3.drew m (mcells s W D) 67 := hm3
  have hp4 : Blk w3.drew p (pcell ((n : Nat), List.replicate 8 0)) 43 := hp3
  have h8 := page_length h.wl hn
  refine dr_op 8 rfl (by decide +kernel) rfl rfl (opTo_copy (ints (page W n)) rfl rfl rfl (by decide +kernel) hp4 (by rw [ints_length, h8]; show 8 = min (112 - n * 8) 8; omega) (hm4.range (by rw [ints_length, h8, Nat.mul_one]; exact m_page h.wl hn)) (by rw [ints_length, h8, pcell_length rfl]; decide) (ints_one _) fun r => ⟨fun _ => trivial, ?_⟩)
  rw [show splice (pcell (((n : Nat) : Int), List.replicate 8 0)) (0 + 1) (ints (page W n)) = pcell ((n : Nat), page W n) by
    obtain ⟨a, b, c, d, e, f, g, j, hl⟩ := list8 h8
    rw [hl]
    rfl]
  refine dr_done (by decide +kernel) ?_
  have hk5 := (hk3.drew).setRow p (pcell ((n : Nat), page W n)).toArray (.inr hle)
  have hr5 : Blk (w3.drew.setRow p (pcell ((n : Nat), page W n)).toArray) w.heap.size (pcell (0, List.replicate 8 0)) 43 := Blk.other (w := w3.drew) hr3 _ hne
  have hp5 := hp4.set (pcell ((n : Nat), page W n))
  generalize (w3.drew.setRow p (pcell ((n : Nat), page W n)).toArray) = w5 at *
  have h9 : (pcell ((n : Nat), page W n)).length = 9 := pcell_length h8
  repeat (first | refine pl_pure hT rfl rfl rfl ?_ | refine pl_nil ?_ | refine rn_seq ?_ | refine rn_plain ?_ | refine rn_block ?_ | refine rn_inBlock ?_ | refine rn_skip ?_ | refine rn_true rfl ?_ | refine rn_false rfl ?_ | refine rn_exit rfl ?_ | refine pl_not rfl rfl ?_)
  refine pl_val (.agg (pcell ((n : Nat), page W n)).toArray) rfl rfl (val_load _ hT rfl rfl (by rw [h9]; rfl) (hp5.range (by simp))) ?_
  refine pl_op rfl rfl (opTo_store _ rfl rfl rfl rfl (by rw [h9]; decide +kernel) hr5 (by rw [h9]; decide) (pcell_one _) ?_)
  rw [splice_all (by rw [h9]; rfl)]
  repeat (first | refine pl_pure hT rfl rfl rfl ?_ | refine pl_nil ?_ | refine rn_seq ?_ | refine rn_plain ?_ | refine rn_block ?_ | refine rn_inBlock ?_ | refine rn_skip ?_ | refine rn_true rfl ?_ | refine rn_false rfl ?_ | refine rn_exit rfl ?_ | refine pl_not rfl rfl ?_)
  exact rn_ret Try.func43 (.inr (.inr (.inl ⟨_, _, _, rfl, rfl, loadVar_agg hT (cs := pcell ((n : Nat), page W n)) (by rw [h9]; rfl) ((hr5.set _).range (by simp))⟩))) ⟨rfl, hk5.setRow _ _ (.inr (Nat.le_refl _))⟩

/-- The dirty pages below j. -/
def dirtyTo (W : List Int) (D : List Bool) (j : Nat) : List Pg := ((List.range j).filter fun n => D.getD n false).map fun n => ((n : Nat), page W n)
def dirtyPs (W : List Int) (D : List Bool) : List Pg := dirtyTo W D 14
theorem dirtyTo_succ (W : List Int) (D : List Bool) (j : Nat) : dirtyTo W D (j + 1) = if D.getD j false then dirtyTo W D j ++ [(((j : Nat) : Int), page W j)] else dirtyTo W D j := by
  unfold dirtyTo
  have e : [j].filter (fun n => D.getD n false) = if D.getD j false then [j] else [] := by simp only [List.filter_cons, List.filter_nil]
  rw [List.range_succ, List.filter_append, List.map_append, e]
  cases D.getD j false
  · simp only [Bool.false_eq_true, if_false, List.map_nil, List.append_nil]
  · simp only [if_true, List.map_cons, List.map_nil]
theorem dirtyTo_len (W : List Int) (D : List Bool) (j : Nat) : (dirtyTo W D j).length ≤ j := by
  unfold dirtyTo
  rw [List.length_map]
  exact Nat.le_trans (List.length_filter_le _ _) (by simp)
theorem dirtyTo_wf {W : List Int} (h : W.length = 112) (D : List Bool) {j : Nat} (hj : j ≤ 14) : ∀ p ∈ dirtyTo W D j, p.2.length = 8 := by
  intro p hp
  obtain ⟨n, hn, rfl⟩ := List.mem_map.1 hp
  have := List.mem_range.1 (List.mem_filter.1 hn).1
  exact page_length h (by omega)

theorem pcells_snoc (l : List Pg) (p : Pg) : pcells (l ++ [p]) = pcells l ++ pcell p := by simp [pcells]

theorem own_spgs {w : World} {B : Nat} {v : Value} {ps : List Pg} (h : Own w B 43 9 v ps.length (pcells ps)) (hwf : ∀ p ∈ ps, p.2.length = 8) : Pgs w.heap.size w v ps := by
  obtain ⟨a, cap, hv⟩ := h.form
  refine ⟨⟨a, cap, hv, fun hne => ?_⟩, hwf, Nat.le_refl _⟩
  have h0 : 0 < ps.length := List.length_pos_iff.2 hne
  obtain ⟨g, cap', hv', hr⟩ := h.range (q := 0) (cs := pcells ps) (by simp) h0
  rw [hv] at hv'
  injection hv' with e1 e2 e3
  refine ⟨g, 0, e1, (h.lt g ?_).2, hr⟩
  rw [hv, e1]
  rfl

theorem dirty_ret (h : MemV w m s W D) : Ret Try.prog 20 [.pointer (some ⟨m, 0, none⟩)] w fun v w' => Pgs w'.heap.size w' v (dirtyPs W D) ∧ Keep [] w w' := by
  refine ret_of 23 Try.func20 rfl rfl (by simp) ?_
  repeat (first | refine pl_pure hT rfl rfl rfl ?_ | refine pl_nil ?_ | refine rn_seq ?_ | refine rn_plain ?_ | refine rn_block ?_ | refine rn_inBlock ?_ | refine rn_skip ?_ | refine rn_true rfl ?_ | refine rn_false rfl ?_ | refine rn_exit rfl ?_ | refine pl_not rfl rfl ?_)
  refine pl_val (.agg (bools D).toArray) rfl rfl (val_load _ hT rfl rfl (by rw [bools_length, h.dl]; rfl) (h.blk.range (by rw [bools_length, h.dl]; exact m_D h.wl h.dl))) ?_
  repeat (first | refine pl_pure hT rfl rfl rfl ?_ | refine pl_nil ?_ | refine rn_seq ?_ | refine rn_plain ?_ | refine rn_block ?_ | refine rn_inBlock ?_ | refine rn_skip ?_ | refine rn_true rfl ?_ | refine rn_false rfl ?_ | refine rn_exit rfl ?_ | refine pl_not rfl rfl ?_)
  refine rn_ind (fun q σ w' => ∃ j rv, q = 14 - j ∧ j ≤ 14 ∧ σ = [(0, .pointer (some ⟨m, 0, none⟩)), (3, rv), (9, .agg (bools D).toArray), (10, .int .i64 (j : Nat))] ∧ Keep [] w w' ∧ Own w' w.heap.size 43 9 rv (dirtyTo W D j).length (pcells (dirtyTo W D j)))
    (14 - 0) _ ?_ ⟨0, _, rfl, by decide, rfl, Keep.refl _ _, Own.nil _ _ _ _⟩ ?_
  · exact ⟨rfl, rfl, rfl, rfl, trivial⟩
  rintro q σ w1 ih ⟨j, rv, hq, hj, rfl, hk1, ho1⟩
  repeat (first | refine pl_pure hT rfl rfl rfl ?_ | refine pl_nil ?_ | refine rn_seq ?_ | refine rn_plain ?_ | refine rn_block ?_ | refine rn_inBlock ?_ | refine rn_skip ?_ | refine rn_true rfl ?_ | refine rn_false rfl ?_ | refine rn_exit rfl ?_ | refine pl_not rfl rfl ?_)
  rcases Nat.lt_or_ge j 14 with hlt | hge
  · refine pl_val (.bool true) rfl rfl (val_int .i64 _ _ _ rfl rfl rfl (by simp [intOp]; omega) w1) ?_
    repeat (first | refine pl_pure hT rfl rfl rfl ?_ | refine pl_nil ?_ | refine rn_seq ?_ | refine rn_plain ?_ | refine rn_block ?_ | refine rn_inBlock ?_ | refine rn_skip ?_ | refine rn_true rfl ?_ | refine rn_false rfl ?_ | refine rn_exit rfl ?_ | refine pl_not rfl rfl ?_)
    refine pl_val (.bool (D.getD j false)) rfl rfl (val_atB (bools D) _ j (len := 14) (by decide +kernel) rfl rfl rfl rfl hlt (by simp [bools, List.getD_eq_getElem?_getD, h.dl, hlt]) w1) ?_
    cases hb : D.getD j false with
    | false =>
      repeat (first | refine pl_pure hT rfl rfl rfl ?_ | refine pl_nil ?_ | refine rn_seq ?_ | refine rn_plain ?_ | refine rn_block ?_ | refine rn_inBlock ?_ | refine rn_skip ?_ | refine rn_true rfl ?_ | refine rn_false rfl ?_ | refine rn_exit rfl ?_ | refine pl_not rfl rfl ?_)
      refine pl_val (.int .i64 ((j + 1 : Nat) : Int)) rfl rfl (val_int .i64 j 1 _ rfl rfl rfl (by simp only [intOp]; rw [wrap_i64 (by omega) (by omega)]; rfl) w1) ?_
      repeat (first | refine pl_pure hT rfl rfl rfl ?_ | refine pl_nil ?_ | refine rn_seq ?_ | refine rn_plain ?_ | refine rn_block ?_ | refine rn_inBlock ?_ | refine rn_skip ?_ | refine rn_true rfl ?_ | refine rn_false rfl ?_ | refine rn_exit rfl ?_ | refine pl_not rfl rfl ?_)
      refine rn_sub ?_ (ih (14 - (j + 1)) _ w1 (by omega) ⟨j + 1, rv, rfl, hlt, rfl, hk1, by rw [dirtyTo_succ, hb]; exact ho1⟩)
      exact ⟨rfl, rfl, rfl, rfl, trivial⟩
    | true =>
      repeat (first | refine pl_pure hT rfl rfl rfl ?_ | refine pl_nil ?_ | refine rn_seq ?_ | refine rn_plain ?_ | refine rn_block ?_ | refine rn_inBlock ?_ | refine rn_skip ?_ | refine rn_true rfl ?_ | refine rn_false rfl ?_ | refine rn_exit rfl ?_ | refine pl_not rfl rfl ?_)
      refine pl_op rfl rfl (opTo_call rfl rfl rfl rfl (by decide +kernel) ((page_ret (h.keep hk1 (by simp)) hlt).mono ?_))
      rintro v w2 ⟨rfl, hk2⟩
      have h8 := page_length h.wl hlt
      refine pl_op rfl rfl (opTo_buildSlice _ _ rfl rfl (slice_pg (j : Nat) h8) ?_)
      have hk3 := hk2.alloc (.cells (pcell ((j : Nat), page W j)).toArray 43)
      have hy3 := Blk.new w2 (pcell ((j : Nat), page W j)) 43
      generalize (w2.alloc (.cells (pcell ((j : Nat), page W j)).toArray 43)) = w3 at *
      have ho3 := ho1.keep hk3 (by simp)
      have hkw3 := hk1.tr0 hk3
      have hlt3 := ho3.lt
      have hll := dirtyTo_len W D j
      refine pl_op rfl rfl (opTo_app w.heap.size 43 9 72 (pcells (dirtyTo W D j)) (pcell ((j : Nat), page W j)) rfl rfl rfl (by decide +kernel) ho3 (hy3.range (by simp)) (by rw [pcell_length h8]) (pcell_one _) (by decide) (by unfold maxLen; omega) (by omega) hkw3.size ?_)
      intro g cap' w4 hown hor
      have hk4 : Keep rv.ownBlock.toList w3 w4 := by
        rcases hor with ⟨e, _, hk⟩ | ⟨_, hk, _⟩
        · rw [e]; exact hk
        · exact hk.of0
      have hkw4 : Keep [] w w4 := hkw3.trans hk4 fun k hk => .inr (hlt3 k (by simpa using hk)).1
      repeat (first | refine pl_pure hT rfl rfl rfl ?_ | refine pl_nil ?_ | refine rn_seq ?_ | refine rn_plain ?_ | refine rn_block ?_ | refine rn_inBlock ?_ | refine rn_skip ?_ | refine rn_true rfl ?_ | refine rn_false rfl ?_ | refine rn_exit rfl ?_ | refine pl_not rfl rfl ?_)
      refine pl_val (.int .i64 ((j + 1 : Nat) : Int)) rfl rfl (val_int .i64 j 1 _ rfl rfl rfl (by simp only [intOp]; rw [wrap_i64 (by omega) (by omega)]; rfl) w4) ?_
      repeat (first | refine pl_pure hT rfl rfl rfl ?_ | refine pl_nil ?_ | refine rn_seq ?_ | refine rn_plain ?_ | refine rn_block ?_ | refine rn_inBlock ?_ | refine rn_skip ?_ | refine rn_true rfl ?_ | refine rn_false rfl ?_ | refine rn_exit rfl ?_ | refine pl_not rfl rfl ?_)
      refine rn_sub ?_ (ih (14 - (j + 1)) _ w4 (by omega) ⟨j + 1, .slice (some ⟨g, 0, none⟩) ((dirtyTo W D j).length + 1) cap', rfl, hlt, rfl, hkw4, ?_⟩)
      · exact ⟨rfl, rfl, rfl, rfl, trivial⟩
      · rw [dirtyTo_succ, hb, if_pos rfl, pcells_snoc, List.length_append]
        exact hown
  · refine pl_val (.bool false) rfl rfl (val_int .i64 _ _ _ rfl rfl rfl (by simp [intOp]; omega) w1) ?_
    have hj14 : j = 14 := by omega
    subst hj14
    repeat (first | refine pl_pure hT rfl rfl rfl ?_ | refine pl_nil ?_ | refine rn_seq ?_ | refine rn_plain ?_ | refine rn_block ?_ | refine rn_inBlock ?_ | refine rn_skip ?_ | refine rn_true rfl ?_ | refine rn_false rfl ?_ | refine rn_exit rfl ?_ | refine pl_not rfl rfl ?_)
    exact rn_ret Try.func20 (.inl ⟨_, rfl, rfl⟩) ⟨own_spgs ho1 (dirtyTo_wf h.wl D (by decide)), hk1⟩

/-- The words of a store's pages, one behind the other. -/
def catS (S : List Int) (j : Nat) : List Int := (List.range j).flatMap fun i => readS S (i : Nat)
def allS (S : List Int) : List Int := catS S 14
theorem catS_length {S : List Int} (hS : S.length = 272) : ∀ j, (catS S j).length = j * 8
  | 0 => rfl
  | j + 1 => by
    have := catS_length hS j
    unfold catS at *
    rw [List.range_succ, List.flatMap_append, List.length_append, this]
    simp [readS_length hS]
    omega
theorem catS_succ (S : List Int) (j : Nat) : catS S (j + 1) = catS S j ++ readS S (j : Nat) := by
  unfold catS
  rw [List.range_succ, List.flatMap_append]
  simp

theorem built_mem (s : Nat) : Try.prog.built 67 [(0, Value.pointer (some ⟨s, 0, none⟩))] = some (mcells s (List.replicate 112 0) (List.replicate 14 false)).toArray := by kernel_rfl

def newW (S : List Int) (j : Nat) : List Int := catS S j ++ List.replicate (112 - j * 8) 0
theorem newW_length {S : List Int} (hS : S.length = 272) {j : Nat} (hj : j ≤ 14) : (newW S j).length = 112 := by
  simp [newW, catS_length hS]; omega
theorem newW_succ {S : List Int} (hS : S.length = 272) {j : Nat} (hj : j < 14) : (newW S j).take (j * 8) ++ readS S (j : Nat) ++ (newW S j).drop (j * 8 + (readS S (j : Nat)).length) = newW S (j + 1) := by
  have hl := catS_length hS j
  rw [readS_length hS]
  unfold newW
  rw [List.take_append_of_le_length (by omega), List.take_of_length_le (by omega), List.drop_append, List.drop_eq_nil_of_le (by omega), List.nil_append, hl, List.drop_replicate, catS_succ]
  congr 2
  omega

theorem mnew_ret {B d : Nat} {S : List Int} {L : List Wr} {wv : Value} (hs : StoreV w s d) (hd : DiskV B w d S L wv) :
    Ret Try.prog 17 [.pointer (some ⟨s, 0, none⟩)] w fun v w' => ∃ m, v = .pointer (some ⟨m, 0, none⟩) ∧ w.heap.size ≤ m ∧ MemV w' m s (allS S) (List.replicate 14 false) ∧ Keep [] w w' := by
  refine ret_of 28 Try.func17 rfl rfl (by simp) ?_
  repeat (first | refine pl_pure hT rfl rfl rfl ?_ | refine pl_nil ?_ | refine rn_seq ?_ | refine rn_plain ?_ | refine rn_block ?_ | refine rn_inBlock ?_ | refine rn_skip ?_ | refine rn_true rfl ?_ | refine rn_false rfl ?_ | refine rn_exit rfl ?_ | refine pl_not rfl rfl ?_)
  refine pl_val _ rfl rfl (val_build _ rfl rfl (built_mem s) w) ?_
  refine pl_op rfl rfl (opTo_box _ rfl rfl rfl ?_)
  have hk1 : Keep [] w (w.alloc (.cells (mcells s (List.replicate 112 0) (List.replicate 14 false)).toArray 67)) := (Keep.refl _ _).alloc _
  have hm1 : MemV (w.alloc (.cells (mcells s (List.replicate 112 0) (List.replicate 14 false)).toArray 67)) w.heap.size s (newW S 0) (List.replicate 14 false) := ⟨Blk.new _ _ _, by simp [newW, catS], by simp⟩
  generalize (w.alloc (.cells (mcells s (List.replicate 112 0) (List.replicate 14 false)).toArray 67)) = w1 at *
  repeat (first | refine pl_pure hT rfl rfl rfl ?_ | refine pl_nil ?_ | refine rn_seq ?_ | refine rn_plain ?_ | refine rn_block ?_ | refine rn_inBlock ?_ | refine rn_skip ?_ | refine rn_true rfl ?_ | refine rn_false rfl ?_ | refine rn_exit rfl ?_ | refine pl_not rfl rfl ?_)
  refine rn_ind (fun q σ w' => ∃ j, q = 14 - j ∧ j ≤ 14 ∧ σ = [(3, .pointer (some ⟨w.heap.size, 0, none⟩)), (9, .int .i64 (j : Nat))] ∧ Keep [] w w' ∧ MemV w' w.heap.size s (newW S j) (List.replicate 14 false))
    (14 - 0) _ ?_ ⟨0, rfl, by decide, rfl, hk1, hm1⟩ ?_
  · exact ⟨rfl, rfl, trivial⟩
  clear hk1 hm1
  rintro q σ w2 ih ⟨j, hq, hj, rfl, hk2, hm2⟩
  repeat (first | refine pl_pure hT rfl rfl rfl ?_ | refine pl_nil ?_ | refine rn_seq ?_ | refine rn_plain ?_ | refine rn_block ?_ | refine rn_inBlock ?_ | refine rn_skip ?_ | refine rn_true rfl ?_ | refine rn_false rfl ?_ | refine rn_exit rfl ?_ | refine pl_not rfl rfl ?_)
  rcases Nat.lt_or_ge j 14 with hlt | hge
  · refine pl_val (.bool true) rfl rfl (val_int .i64 _ _ _ rfl rfl rfl (by simp [intOp]; omega) w2) ?_
    repeat (first | refine pl_pure hT rfl rfl rfl ?_ | refine pl_nil ?_ | refine rn_seq ?_ | refine rn_plain ?_ | refine rn_block ?_ | refine rn_inBlock ?_ | refine rn_skip ?_ | refine rn_true rfl ?_ | refine rn_false rfl ?_ | refine rn_exit rfl ?_ | refine pl_not rfl rfl ?_)
    refine pl_val (.pointer (some ⟨s, 0, none⟩)) rfl rfl (val_load1 hT rfl rfl rfl (hm2.blk.cell rfl)) ?_
    repeat (first | refine pl_pure hT rfl rfl rfl ?_ | refine pl_nil ?_ | refine rn_seq ?_ | refine rn_plain ?_ | refine rn_block ?_ | refine rn_inBlock ?_ | refine rn_skip ?_ | refine rn_true rfl ?_ | refine rn_false rfl ?_ | refine rn_exit rfl ?_ | refine pl_not rfl rfl ?_)
    refine pl_op rfl rfl (opTo_call rfl rfl rfl rfl (by decide +kernel) ((sread_ret (hk2.blk hs (by simp)) (hd.keep hk2 (by simp)) (j : Nat)).mono ?_))
    rintro v w3 ⟨rfl, hk3⟩
    have hkw3 := hk2.tr0 hk3
    have hm3 := hm2.keep hk3 (by simp)
    have h8 := readS_length hd.len (j : Nat)
    refine pl_op rfl rfl (opTo_alloc _ rfl zero_words ?_)
    have hk4 := hkw3.alloc (.cells (ints (List.replicate 8 0)).toArray 37)
    have hx4 := Blk.new w3 (ints (List.replicate 8 0)) 37
    have hm4 := hm3.keep ((Keep.refl [] w3).alloc (.cells (ints (List.replicate 8 0)).toArray 37)) (by simp)
    have hle := hkw3.size
    have hne : w.heap.size ≠ w3.heap.size := by have := hm3.blk.lt; omega
    generalize (w3.alloc (.cells (ints (List.replicate 8 0)).toArray 37)) = w4 at *
    generalize w3.heap.size = x at *
    refine pl_op rfl rfl (opTo_store _ rfl rfl rfl rfl (by rw [ints_length, h8]; decide +kernel) hx4 (by rw [ints_length, h8]; decide) (ints_one _) ?_)
    rw [splice_all (by rw [ints_length, h8]; rfl)]
    have hk5 := hk4.setRow x (ints (readS S (j : Nat))).toArray (.inr hle)
    have hx5 := hx4.set (ints (readS S (j : Nat)))
    have hm5 : MemV (w4.setRow x (ints (readS S (j : Nat))).toArray) w.heap.size s (newW S j) (List.replicate 14 false) := ⟨hm4.blk.other _ hne, hm4.wl, hm4.dl⟩
    generalize (w4.setRow x (ints (readS S (j : Nat))).toArray) = w5 at *
    repeat (first | refine pl_pure hT rfl rfl rfl ?_ | refine pl_nil ?_ | refine rn_seq ?_ | refine rn_plain ?_ | refine rn_block ?_ | refine rn_inBlock ?_ | refine rn_skip ?_ | refine rn_true rfl ?_ | refine rn_false rfl ?_ | refine rn_exit rfl ?_ | refine pl_not rfl rfl ?_)
    refine rn_draw (fun _ => True) [] hMix ?_
    refine dr_pure 0 hT rfl (by decide +kernel) rfl rfl rfl ?_
    refine dr_pure 1 hT rfl (by decide +kernel) rfl rfl rfl ?_
    refine dr_pure 2 hT rfl (by decide +kernel) rfl rfl rfl ?_
    refine dr_pure 3 hT rfl (by decide +kernel) rfl rfl rfl ?_
    refine dr_any 4 (.int .i64 ((j * 8 : Nat) : Int)) rfl (by decide +kernel) rfl rfl (fun w' => val_int .i64 j 8 _ rfl rfl rfl (by simp only [intOp]; rw [wrap_i64 (by omega) (by omega)]; simp) w') ?_
    refine dr_any 5 _ rfl (by decide +kernel) rfl rfl (fun w' => val_sliceArrFrom (j * 8) hT rfl rfl rfl rfl rfl (by omega) w') ?_
    refine dr_any 6 _ rfl (by decide +kernel) rfl rfl (fun w' => val_sliceArr hT rfl rfl rfl w') ?_
    have hb6 : Blk w5.drew w.heap.size (mcells s (newW S j) (List.replicate 14 false)) 67 := hm5.blk
    have hx6 : Blk w5.drew x (ints (readS S (j : Nat))) 37 := hx5
    refine dr_op 7 rfl (by decide +kernel) rfl rfl (opTo_copy (ints (readS S (j : Nat))) rfl rfl rfl (by decide +kernel) hb6 (by rw [ints_length, h8]; show 8 = min 8 (112 - j * 8); omega) (hx6.range (by simp)) (by rw [ints_length, h8, mcells_length hm5.wl hm5.dl]; omega) (ints_one _) fun r => ⟨fun _ => trivial, ?_⟩)
    rw [show 0 + 1 + j * 8 * 1 = 1 + j * 8 by omega, m_setWs (by rw [hm5.wl, h8]; omega), newW_succ hd.len hlt]
    refine dr_done (by decide +kernel) ?_
    have hk7 := (hk5.drew).setRow w.heap.size (mcells s (newW S (j + 1)) (List.replicate 14 false)).toArray (.inr (Nat.le_refl _))
    have hm7 : MemV (w5.drew.setRow w.heap.size (mcells s (newW S (j + 1)) (List.replicate 14 false)).toArray) w.heap.size s (newW S (j + 1)) (List.replicate 14 false) := ⟨hb6.set _, newW_length hd.len hlt, by simp⟩
    generalize (w5.drew.setRow w.heap.size (mcells s (newW S (j + 1)) (List.replicate 14 false)).toArray) = w7 at *
    repeat (first | refine pl_pure hT rfl rfl rfl ?_ | refine pl_nil ?_ | refine rn_seq ?_ | refine rn_plain ?_ | refine rn_block ?_ | refine rn_inBlock ?_ | refine rn_skip ?_ | refine rn_true rfl ?_ | refine rn_false rfl ?_ | refine rn_exit rfl ?_ | refine pl_not rfl rfl ?_)
    refine pl_val (.int .i64 ((j + 1 : Nat) : Int)) rfl rfl (val_int .i64 j 1 _ rfl rfl rfl (by simp only [intOp]; rw [wrap_i64 (by omega) (by omega)]; rfl) w7) ?_
    repeat (first | refine pl_pure hT rfl rfl rfl ?_ | refine pl_nil ?_ | refine rn_seq ?_ | refine rn_plain ?_ | refine rn_block ?_ | refine rn_inBlock ?_ | refine rn_skip ?_ | refine rn_true rfl ?_ | refine rn_false rfl ?_ | refine rn_exit rfl ?_ | refine pl_not rfl rfl ?_)
    refine rn_sub ?_ (ih (14 - (j + 1)) _ w7 (by omega) ⟨j + 1, rfl, hlt, rfl, hk7, hm7⟩)
    exact ⟨rfl, rfl, trivial⟩
  · refine pl_val (.bool false) rfl rfl (val_int .i64 _ _ _ rfl rfl rfl (by simp [intOp]; omega) w2) ?_
    have hj14 : j = 14 := by omega
    subst hj14
    repeat (first | refine pl_pure hT rfl rfl rfl ?_ | refine pl_nil ?_ | refine rn_seq ?_ | refine rn_plain ?_ | refine rn_block ?_ | refine rn_inBlock ?_ | refine rn_skip ?_ | refine rn_true rfl ?_ | refine rn_false rfl ?_ | refine rn_exit rfl ?_ | refine pl_not rfl rfl ?_)
    refine rn_ret Try.func17 (.inl ⟨_, rfl, rfl⟩) ⟨_, rfl, Nat.le_refl _, ?_, hk2⟩
    have e : newW S 14 = allS S := by simp [newW, allS]
    rw [e] at hm2
    exact hm2
end
end E
end Go.Proofs.Ytcnjmjdnlhiflab
