/- A memory as it lies in memory; the contracts of its Load, Put, All. -/
import Derived.Test.YtcnjmjdnlhiflabStoP
import Derived.Test.YtcnjmjdnlhiflabOps3
namespace Go.Proofs.Ytcnjmjdnlhiflab
set_option maxRecDepth 20000
namespace E
open Go.Proofs

def mcells (s : Nat) (W : List Int) (D : List Bool) : List Value := Value.pointer (some ⟨s, 0, none⟩) :: (ints W ++ bools D)

/-- A memory at m on the store at s: its words, and in which pages they were changed. -/
structure MemV (w : World) (m s : Nat) (W : List Int) (D : List Bool) : Prop where
  blk : Blk w m (mcells s W D) 67
  wl : W.length = 112
  dl : D.length = 14

theorem MemV.keep {w w' : World} {m s : Nat} {W : List Int} {D : List Bool} {fp : List Nat} (h : MemV w m s W D) (hk : Keep fp w w') (hn : m ∉ fp) : MemV w' m s W D := ⟨hk.blk h.blk hn, h.wl, h.dl⟩

def page (W : List Int) (n : Nat) : List Int := (W.drop (n * 8)).take 8
theorem page_length {W : List Int} (h : W.length = 112) {n : Nat} (hn : n < 14) : (page W n).length = 8 := by simp [page, h]; omega

section
variable {s : Nat} {W : List Int} {D : List Bool}
theorem mcells_length (h : W.length = 112) (h' : D.length = 14) : (mcells s W D).length = 127 := by simp [mcells, ints_length, bools_length, h, h']
theorem mcells_one : ∀ u ∈ mcells s W D, u.oneCell' = true := by
  intro u hu
  rcases List.mem_cons.1 hu with rfl | hu
  · rfl
  · rcases List.mem_append.1 hu with hu | hu
    · exact ints_one _ u hu
    · exact bools_one _ u hu
theorem m_at (h : W.length = 112) {i : Nat} (hi : i < 112) : (mcells s W D)[0 + 1 + i * 1]? = some (.int .i64 (W.getD i 0)) := by
  have e : 0 + 1 + i * 1 = i + 1 := by omega
  rw [e, mcells, List.getElem?_cons_succ, List.getElem?_append_left (by rw [ints_length]; omega)]
  simp [ints, List.getD_eq_getElem?_getD, h, hi]
theorem m_atD (h : W.length = 112) (h' : D.length = 14) {i : Nat} (hi : i < 14) : (mcells s W D)[113 + i]? = some (.bool (D.getD i false)) := by
  have e : 113 + i = (112 + i) + 1 := by omega
  rw [e, mcells, List.getElem?_cons_succ, List.getElem?_append_right (by rw [ints_length]; omega), ints_length, h, Nat.add_sub_cancel_left]
  simp [bools, List.getD_eq_getElem?_getD, h', hi]
theorem m_setW (h : W.length = 112) {i : Nat} (hi : i < 112) (x : Int) : splice (mcells s W D) (0 + 1 + i * 1) [.int .i64 x] = mcells s (W.set i x) D := by
  have := splice_mid [Value.pointer (some ⟨s, 0, none⟩)] (ints W) (bools D) [.int .i64 x] i (by rw [ints_length]; simp; omega)
  rw [splice_ints W i x (by omega)] at this
  rw [show 0 + 1 + i * 1 = [Value.pointer (some ⟨s, 0, none⟩)].length + i by simp]
  simpa [mcells] using this
theorem m_setWs {i : Nat} {ws : List Int} (hi : i + ws.length ≤ W.length) : splice (mcells s W D) (1 + i) (ints ws) = mcells s (W.take i ++ ws ++ W.drop (i + ws.length)) D := by
  have := splice_mid [Value.pointer (some ⟨s, 0, none⟩)] (ints W) (bools D) (ints ws) i (by rw [ints_length, ints_length]; omega)
  rw [show splice (ints W) i (ints ws) = ints (W.take i ++ ws ++ W.drop (i + ws.length)) by simp [splice, ints, List.map_take, List.map_drop]] at this
  rw [show 1 + i = [Value.pointer (some ⟨s, 0, none⟩)].length + i by simp]
  simpa [mcells] using this
theorem m_setD (h : W.length = 112) (h' : D.length = 14) {i : Nat} (hi : i < 14) (x : Bool) : splice (mcells s W D) (0 + 113 + i * 1) [.bool x] = mcells s W (D.set i x) := by
  have := splice_mid (Value.pointer (some ⟨s, 0, none⟩) :: ints W) (bools D) [] [.bool x] i (by rw [bools_length]; simp; omega)
  rw [splice_bools D i x (by omega)] at this
  rw [show 0 + 113 + i * 1 = (Value.pointer (some ⟨s, 0, none⟩) :: ints W).length + i by simp [ints_length, h]]
  simpa [mcells] using this
theorem m_setDs (h : W.length = 112) {D' : List Bool} (h' : D'.length = D.length) : splice (mcells s W D) 113 (bools D') = mcells s W D' := by
  have := splice_mid (Value.pointer (some ⟨s, 0, none⟩) :: ints W) (bools D) [] (bools D') 0 (by rw [bools_length, bools_length]; omega)
  rw [splice_all (by rw [bools_length, bools_length, h'])] at this
  rw [show 113 = (Value.pointer (some ⟨s, 0, none⟩) :: ints W).length + 0 by simp [ints_length, h]]
  simpa [mcells] using this
theorem m_page (h : W.length = 112) {n : Nat} (hn : n < 14) : ((mcells s W D).drop (1 + n * 8)).take 8 = ints (page W n) := by
  rw [Nat.add_comm, mcells, List.drop_succ_cons, List.drop_append_of_le_length (by rw [ints_length]; omega), List.take_append_of_le_length (by rw [List.length_drop, ints_length]; omega)]
  simp [page, ints, List.map_take, List.map_drop]
theorem m_words (h : W.length = 112) : ((mcells s W D).drop 1).take 112 = ints W := by
  rw [mcells, List.drop_succ_cons, List.drop_zero, List.take_append_of_le_length (by rw [ints_length]; omega), List.take_of_length_le (by rw [ints_length]; omega)]
theorem m_D (h : W.length = 112) (h' : D.length = 14) : ((mcells s W D).drop 113).take 14 = bools D := by
  rw [mcells, List.drop_succ_cons, List.drop_append, List.drop_eq_nil_of_le (by rw [ints_length]; omega), ints_length, h, List.nil_append, List.drop_zero, List.take_of_length_le (by rw [bools_length]; omega)]
end

/-- There is such a word. -/
def hasM (i : Int) : Bool := decide (0 ≤ i) && decide (i < 112)

theorem hasM_ret (i : Int) (w : World) : Ret Try.prog 42 [.int .i64 i] w fun v w' => v = .bool (hasM i) ∧ w' = w := by
  refine ret_of 9 Try.func42 rfl rfl (by simp) ?_
  repeat (first | refine pl_pure hT rfl rfl rfl ?_ | refine pl_nil ?_ | refine rn_seq ?_ | refine rn_plain ?_ | refine rn_block ?_ | refine rn_inBlock ?_ | refine rn_skip ?_ | refine rn_true rfl ?_ | refine rn_false rfl ?_ | refine rn_exit rfl ?_ | refine pl_not rfl rfl ?_)
  by_cases h0 : 0 ≤ i
  · refine pl_val (.bool true) rfl rfl (val_int .i64 i 0 _ rfl rfl rfl (by simp [intOp, h0]) w) ?_
    repeat (first | refine pl_pure hT rfl rfl rfl ?_ | refine pl_nil ?_ | refine rn_seq ?_ | refine rn_plain ?_ | refine rn_block ?_ | refine rn_inBlock ?_ | refine rn_skip ?_ | refine rn_true rfl ?_ | refine rn_false rfl ?_ | refine rn_exit rfl ?_ | refine pl_not rfl rfl ?_)
    refine pl_val (.bool (decide (i < 112))) rfl rfl (val_int .i64 i 112 _ rfl rfl rfl (by simp [intOp]) w) ?_
    repeat (first | refine pl_pure hT rfl rfl rfl ?_ | refine pl_nil ?_ | refine rn_seq ?_ | refine rn_plain ?_ | refine rn_block ?_ | refine rn_inBlock ?_ | refine rn_skip ?_ | refine rn_true rfl ?_ | refine rn_false rfl ?_ | refine rn_exit rfl ?_ | refine pl_not rfl rfl ?_)
    refine rn_ret Try.func42 (.inl ⟨_, rfl, rfl⟩) ⟨?_, rfl⟩
    simp [hasM, h0]
  · refine pl_val (.bool false) rfl rfl (val_int .i64 i 0 _ rfl rfl rfl (by simp [intOp, h0]) w) ?_
    repeat (first | refine pl_pure hT rfl rfl rfl ?_ | refine pl_nil ?_ | refine rn_seq ?_ | refine rn_plain ?_ | refine rn_block ?_ | refine rn_inBlock ?_ | refine rn_skip ?_ | refine rn_true rfl ?_ | refine rn_false rfl ?_ | refine rn_exit rfl ?_ | refine pl_not rfl rfl ?_)
    refine rn_ret Try.func42 (.inl ⟨_, rfl, rfl⟩) ⟨?_, rfl⟩
    simp [hasM, h0]

def loadW (W : List Int) (i : Int) : Int := if hasM i then W.getD i.toNat 0 else 0
def putW (W : List Int) (i x : Int) : List Int := if hasM i then W.set i.toNat x else W
def putD (W : List Int) (D : List Bool) (i x : Int) : List Bool := if hasM i then (if W.getD i.toNat 0 = x then D else D.set (i.toNat / 8) true) else D
theorem putW_length (W : List Int) (i x : Int) : (putW W i x).length = W.length := by unfold putW; split <;> simp
theorem putD_length (W : List Int) (D : List Bool) (i x : Int) : (putD W D i x).length = D.length := by
  unfold putD
  split
  · split <;> simp
  · rfl

section
variable {w : World} {m s : Nat} {W : List Int} {D : List Bool}

theorem load_ret (h : MemV w m s W D) (i : Int) : Ret Try.prog 24 [.pointer (some ⟨m, 0, none⟩), .int .i64 i] w fun v w' => v = .int .i64 (loadW W i) ∧ w' = w := by
  refine ret_of 14 Try.func24 rfl rfl (by simp) ?_
  repeat (first | refine pl_pure hT rfl rfl rfl ?_ | refine pl_nil ?_ | refine rn_seq ?_ | refine rn_plain ?_ | refine rn_block ?_ | refine rn_inBlock ?_ | refine rn_skip ?_ | refine rn_true rfl ?_ | refine rn_false rfl ?_ | refine rn_exit rfl ?_ | refine pl_not rfl rfl ?_)
  refine pl_op rfl rfl (opTo_call rfl rfl rfl rfl (by decide +kernel) ((hasM_ret i w).mono ?_))
  rintro v w1 ⟨rfl, rfl⟩
  cases hb : hasM i with
  | false =>
    repeat (first | refine pl_pure hT rfl rfl rfl ?_ | refine pl_nil ?_ | refine rn_seq ?_ | refine rn_plain ?_ | refine rn_block ?_ | refine rn_inBlock ?_ | refine rn_skip ?_ | refine rn_true rfl ?_ | refine rn_false rfl ?_ | refine rn_exit rfl ?_ | refine pl_not rfl rfl ?_)
    exact rn_ret Try.func24 (.inl ⟨_, rfl, rfl⟩) ⟨by simp [loadW, hb], rfl⟩
  | true =>
    have hi : 0 ≤ i ∧ i < 112 := by simpa [hasM] using hb
    repeat (first | refine pl_pure hT rfl rfl rfl ?_ | refine pl_nil ?_ | refine rn_seq ?_ | refine rn_plain ?_ | refine rn_block ?_ | refine rn_inBlock ?_ | refine rn_skip ?_ | refine rn_true rfl ?_ | refine rn_false rfl ?_ | refine rn_exit rfl ?_ | refine pl_not rfl rfl ?_)
    refine pl_val _ rfl rfl (val_indexArr i.toNat hT rfl rfl rfl rfl (by omega) (by omega) w1) ?_
    refine pl_val (.int .i64 (W.getD i.toNat 0)) rfl rfl (val_load1 hT rfl rfl rfl (h.blk.cell (m_at h.wl (by omega)))) ?_
    repeat (first | refine pl_pure hT rfl rfl rfl ?_ | refine pl_nil ?_ | refine rn_seq ?_ | refine rn_plain ?_ | refine rn_block ?_ | refine rn_inBlock ?_ | refine rn_skip ?_ | refine rn_true rfl ?_ | refine rn_false rfl ?_ | refine rn_exit rfl ?_ | refine pl_not rfl rfl ?_)
    exact rn_ret Try.func24 (.inl ⟨_, rfl, rfl⟩) ⟨by simp [loadW, hb], rfl⟩

theorem put_ret (h : MemV w m s W D) (i x : Int) : Ret Try.prog 19 [.pointer (some ⟨m, 0, none⟩), .int .i64 i, .int .i64 x] w fun v w' => v = .bool (hasM i) ∧ MemV w' m s (putW W i x) (putD W D i x) ∧ Keep [m] w w' := by
  refine ret_of 30 Try.func19 rfl rfl (by simp) ?_
  repeat (first | refine pl_pure hT rfl rfl rfl ?_ | refine pl_nil ?_ | refine rn_seq ?_ | refine rn_plain ?_ | refine rn_block ?_ | refine rn_inBlock ?_ | refine rn_skip ?_ | refine rn_true rfl ?_ | refine rn_false rfl ?_ | refine rn_exit rfl ?_ | refine pl_not rfl rfl ?_)
  refine pl_op rfl rfl (opTo_call rfl rfl rfl rfl (by decide +kernel) ((hasM_ret i w).mono ?_))
  rintro v w1 ⟨rfl, rfl⟩
  cases hb : hasM i with
  | false =>
    repeat (first | refine pl_pure hT rfl rfl rfl ?_ | refine pl_nil ?_ | refine rn_seq ?_ | refine rn_plain ?_ | refine rn_block ?_ | refine rn_inBlock ?_ | refine rn_skip ?_ | refine rn_true rfl ?_ | refine rn_false rfl ?_ | refine rn_exit rfl ?_ | refine pl_not rfl rfl ?_)
    refine rn_ret Try.func19 (.inl ⟨_, rfl, rfl⟩) ⟨rfl, ?_, Keep.refl _ _⟩
    simpa [putW, putD, hb] using h
  | true =>
    have hi : 0 ≤ i ∧ i < 112 := by simpa [hasM] using hb
    have hI : i = ((i.toNat : Nat) : Int) := by omega
    have hlt : i.toNat < 112 := by omega
    repeat (first | refine pl_pure hT rfl rfl rfl ?_ | refine pl_nil ?_ | refine rn_seq ?_ | refine rn_plain ?_ | refine rn_block ?_ | refine rn_inBlock ?_ | refine rn_skip ?_ | refine rn_true rfl ?_ | refine rn_false rfl ?_ | refine rn_exit rfl ?_ | refine pl_not rfl rfl ?_)
    refine pl_val _ rfl rfl (val_indexArr i.toNat hT rfl rfl rfl rfl hI (by omega) w1) ?_
    refine pl_val (.int .i64 (W.getD i.toNat 0)) rfl rfl (val_load1 hT rfl rfl rfl (h.blk.cell (m_at h.wl (by omega)))) ?_
    repeat (first | refine pl_pure hT rfl rfl rfl ?_ | refine pl_nil ?_ | refine rn_seq ?_ | refine rn_plain ?_ | refine rn_block ?_ | refine rn_inBlock ?_ | refine rn_skip ?_ | refine rn_true rfl ?_ | refine rn_false rfl ?_ | refine rn_exit rfl ?_ | refine pl_not rfl rfl ?_)
    by_cases hx : W.getD i.toNat 0 = x
    · refine pl_val (.bool false) rfl rfl (val_int .i64 _ x _ rfl rfl rfl (by simp only [intOp, hx, bne_self_eq_false]) w1) ?_
      repeat (first | refine pl_pure hT rfl rfl rfl ?_ | refine pl_nil ?_ | refine rn_seq ?_ | refine rn_plain ?_ | refine rn_block ?_ | refine rn_inBlock ?_ | refine rn_skip ?_ | refine rn_true rfl ?_ | refine rn_false rfl ?_ | refine rn_exit rfl ?_ | refine pl_not rfl rfl ?_)
      refine rn_ret Try.func19 (.inl ⟨_, rfl, rfl⟩) ⟨rfl, ?_, Keep.refl _ _⟩
      have e : W.set i.toNat x = W := by
        apply List.ext_getElem?
        intro j
        rw [List.getElem?_set]
        split
        · rename_i e
          subst e
          rw [if_pos (by rw [h.wl]; omega), ← hx, List.getD_eq_getElem?_getD, List.getElem?_eq_getElem (by rw [h.wl]; omega)]
          rfl
        · rfl
      simp only [putW, putD, hb, if_true, hx, e]
      exact h
    · refine pl_val (.bool true) rfl rfl (val_int .i64 _ x _ rfl rfl rfl (by simp only [intOp]; rw [show (W.getD i.toNat 0 != x) = true by simpa using hx]) w1) ?_
      repeat (first | refine pl_pure hT rfl rfl rfl ?_ | refine pl_nil ?_ | refine rn_seq ?_ | refine rn_plain ?_ | refine rn_block ?_ | refine rn_inBlock ?_ | refine rn_skip ?_ | refine rn_true rfl ?_ | refine rn_false rfl ?_ | refine rn_exit rfl ?_ | refine pl_not rfl rfl ?_)
      refine pl_val _ rfl rfl (val_indexArr i.toNat hT rfl rfl rfl rfl hI (by omega) w1) ?_
      refine pl_op rfl rfl (opTo_store [.int .i64 x] rfl rfl rfl rfl (by kernel_rfl) h.blk (by rw [mcells_length h.wl h.dl]; simp; omega) (by simp; rfl) ?_)
      rw [m_setW h.wl hlt]
      have hk2 : Keep [m] w1 (w1.setRow m (mcells s (W.set i.toNat x) D).toArray) := (Keep.refl _ _).setRow _ _ (.inl (by simp))
      have h2 : MemV (w1.setRow m (mcells s (W.set i.toNat x) D).toArray) m s (W.set i.toNat x) D := ⟨h.blk.set _, by simpa using h.wl, h.dl⟩
      generalize (w1.setRow m (mcells s (W.set i.toNat x) D).toArray) = w2 at *
      repeat (first | refine pl_pure hT rfl rfl rfl ?_ | refine pl_nil ?_ | refine rn_seq ?_ | refine rn_plain ?_ | refine rn_block ?_ | refine rn_inBlock ?_ | refine rn_skip ?_ | refine rn_true rfl ?_ | refine rn_false rfl ?_ | refine rn_exit rfl ?_ | refine pl_not rfl rfl ?_)
      refine pl_val (.int .i64 ((i.toNat / 8 : Nat) : Int)) rfl rfl (val_quo .i64 i 8 _ rfl rfl rfl (by decide) (by rw [hI]; exact quo8 i.toNat (by omega)) w2) ?_
      repeat (first | refine pl_pure hT rfl rfl rfl ?_ | refine pl_nil ?_ | refine rn_seq ?_ | refine rn_plain ?_ | refine rn_block ?_ | refine rn_inBlock ?_ | refine rn_skip ?_ | refine rn_true rfl ?_ | refine rn_false rfl ?_ | refine rn_exit rfl ?_ | refine pl_not rfl rfl ?_)
      refine pl_val _ rfl rfl (val_indexArr (i.toNat / 8) hT rfl rfl rfl rfl rfl (by omega) w2) ?_
      refine pl_op rfl rfl (opTo_store [.bool true] rfl rfl rfl rfl (by kernel_rfl) h2.blk (by rw [mcells_length h2.wl h2.dl]; simp; omega) (by simp; rfl) ?_)
      rw [m_setD h2.wl h2.dl (by omega)]
      repeat (first | refine pl_pure hT rfl rfl rfl ?_ | refine pl_nil ?_ | refine rn_seq ?_ | refine rn_plain ?_ | refine rn_block ?_ | refine rn_inBlock ?_ | refine rn_skip ?_ | refine rn_true rfl ?_ | refine rn_false rfl ?_ | refine rn_exit rfl ?_ | refine pl_not rfl rfl ?_)
      refine rn_ret Try.func19 (.inl ⟨_, rfl, rfl⟩) ⟨rfl, ?_, hk2.setRow _ _ (.inl (by simp))⟩
      simp only [putW, putD, hb, if_true, hx, if_false]
      exact ⟨h2.blk.set _, h2.wl, by simpa using h2.dl⟩

theorem cloneI_ret {b q : Nat} {cs : List Value} (hr : w.rangeAt b q cs) (hl : cs.length = 112) (h1 : ∀ u ∈ cs, u.oneCell' = true) :
    Ret Try.prog 45 [.slice (some ⟨b, q, none⟩) 112 112] w fun v w' => ∃ g cap, v = .slice (some ⟨g, 0, none⟩) 112 cap ∧ w'.ownsRow w.heap.size 2 1 v 112 cs ∧ Keep [] w w' := by
  refine ret_of 8 Try.func45 rfl rfl (by simp) ?_
  repeat (first | refine pl_pure hT rfl rfl rfl ?_ | refine pl_nil ?_ | refine rn_seq ?_ | refine rn_plain ?_ | refine rn_block ?_ | refine rn_inBlock ?_ | refine rn_skip ?_ | refine rn_true rfl ?_ | refine rn_false rfl ?_ | refine rn_exit rfl ?_ | refine pl_not rfl rfl ?_)
  refine pl_val (.bool false) rfl rfl (val_notNil hT rfl rfl rfl w) ?_
  repeat (first | refine pl_pure hT rfl rfl rfl ?_ | refine pl_nil ?_ | refine rn_seq ?_ | refine rn_plain ?_ | refine rn_block ?_ | refine rn_inBlock ?_ | refine rn_skip ?_ | refine rn_true rfl ?_ | refine rn_false rfl ?_ | refine rn_exit rfl ?_ | refine pl_not rfl rfl ?_)
  refine pl_op rfl rfl (opTo_buildSlice 2 [] rfl rfl (by kernel_rfl) ?_)
  have hk1 : Keep [] w (w.alloc (.cells ([] : List Value).toArray 2)) := (Keep.refl _ _).alloc _
  have hb1 : Blk (w.alloc (.cells ([] : List Value).toArray 2)) w.heap.size [] 2 := Blk.new _ _ _
  have hr1 : (w.alloc (.cells ([] : List Value).toArray 2)).rangeAt b q cs := World.rangeAt_alloc hr _
  generalize (w.alloc (.cells ([] : List Value).toArray 2)) = w1 at *
  repeat (first | refine pl_pure hT rfl rfl rfl ?_ | refine pl_nil ?_ | refine rn_seq ?_ | refine rn_plain ?_ | refine rn_block ?_ | refine rn_inBlock ?_ | refine rn_skip ?_ | refine rn_true rfl ?_ | refine rn_false rfl ?_ | refine rn_exit rfl ?_ | refine pl_not rfl rfl ?_)
  refine pl_op rfl rfl (opTo_append w.heap.size 2 1 8 [] cs rfl rfl rfl (by decide +kernel) (by decide) ⟨rfl, .inr ⟨w.heap.size, 0, #[], rfl, Nat.le_refl _, hb1, Nat.le_refl _, by decide, rfl, rfl⟩⟩ hr1 hl h1 (by decide) (by decide) (by decide) (by have := hk1.size; omega) ?_)
  intro g cap w2 hown hgrow hat hlt
  repeat (first | refine pl_pure hT rfl rfl rfl ?_ | refine pl_nil ?_ | refine rn_seq ?_ | refine rn_plain ?_ | refine rn_block ?_ | refine rn_inBlock ?_ | refine rn_skip ?_ | refine rn_true rfl ?_ | refine rn_false rfl ?_ | refine rn_exit rfl ?_ | refine pl_not rfl rfl ?_)
  refine rn_ret Try.func45 (.inl ⟨_, rfl, rfl⟩) ⟨g, cap, rfl, by simpa using hown, hk1.grown hgrow fun k e => ?_⟩
  simp only [Value.ownBlock, Option.some.injEq] at e
  exact .inr (by omega)

/-- A slice of 112 words, from a block's head on. -/
def Wds (w : World) (v : Value) (W : List Int) : Prop := ∃ g cap cur, v = .slice (some ⟨g, 0, none⟩) 112 cap ∧ W.length = 112 ∧ Blk w g cur 2 ∧ cur.take 112 = ints W

theorem Wds.keep {w w' : World} {v : Value} {W : List Int} {fp : List Nat} (h : Wds w v W) (hk : Keep fp w w') (hn : ∀ k L, k ∈ fp → ¬ Blk w k L 2) : Wds w' v W := by
  obtain ⟨g, cap, cur, rfl, hl, hb, ht⟩ := h
  exact ⟨g, cap, cur, rfl, hl, hk.blk hb fun hm => hn g cur hm hb, ht⟩
theorem Wds.keep0 {w w' : World} {v : Value} {W : List Int} (h : Wds w v W) (hk : Keep [] w w') : Wds w' v W := h.keep hk (by simp)
theorem Wds.at {w : World} {v : Value} {W : List Int} (h : Wds w v W) : ∃ g cap, v = .slice (some ⟨g, 0, none⟩) 112 cap ∧ g < w.heap.size ∧ w.rangeAt g 0 (ints W) ∧ ∀ k, k < 112 → w.cell? ⟨g, 0 + k * 1, none⟩ = some (.int .i64 (W.getD k 0)) := by
  obtain ⟨g, cap, cur, rfl, hl, hb, ht⟩ := h
  refine ⟨g, cap, rfl, hb.lt, hb.range (by rw [ints_length, hl, List.drop_zero]; exact ht), fun k hk => hb.cell ?_⟩
  have e : (cur.take 112)[k]? = cur[k]? := by rw [List.getElem?_take, if_pos hk]
  rw [Nat.mul_one, Nat.zero_add, ← e, ht, List.getD_eq_getElem?_getD, List.getElem?_eq_getElem (show k < W.length by omega)]
  simp only [ints, List.getElem?_map, List.getElem?_eq_getElem (show k < W.length by omega)]
  rfl

theorem owns_wds {w : World} {B g cap : Nat} {W : List Int} (h : w.ownsRow B 2 1 (.slice (some ⟨g, 0, none⟩) 112 cap) 112 (ints W)) (hl : W.length = 112) : Wds w (.slice (some ⟨g, 0, none⟩) 112 cap) W := by
  rcases h.2 with ⟨h1, _⟩ | ⟨g', cap', cur, h1, hb, hg, r⟩
  · cases h1
  · injection h1 with e1 e2 e3
    cases e1
    refine ⟨g, cap, cur.toList, rfl, hl, ?_, ?_⟩
    · unfold Blk
      rw [Array.toArray_toList]
      exact hg
    · have := r.2.2.2
      simpa using this

theorem all_ret (h : MemV w m s W D) : Ret Try.prog 27 [.pointer (some ⟨m, 0, none⟩)] w fun v w' => Wds w' v W ∧ Keep [] w w' := by
  refine ret_of 8 Try.func27 rfl rfl (by simp) ?_
  repeat (first | refine pl_pure hT rfl rfl rfl ?_ | refine pl_nil ?_ | refine rn_seq ?_ | refine rn_plain ?_ | refine rn_block ?_ | refine rn_inBlock ?_ | refine rn_skip ?_ | refine rn_true rfl ?_ | refine rn_false rfl ?_ | refine rn_exit rfl ?_ | refine pl_not rfl rfl ?_)
  refine pl_val _ rfl rfl (val_sliceArr hT rfl rfl rfl w) ?_
  refine pl_op rfl rfl (opTo_call rfl rfl rfl rfl (by decide +kernel) ((cloneI_ret (cs := ints W) (h.blk.range (by rw [ints_length, h.wl]; exact m_words h.wl)) (by rw [ints_length, h.wl]) (ints_one W)).mono ?_))
  rintro v w1 ⟨g, cap, rfl, ho, hk⟩
  repeat (first | refine pl_pure hT rfl rfl rfl ?_ | refine pl_nil ?_ | refine rn_seq ?_ | refine rn_plain ?_ | refine rn_block ?_ | refine rn_inBlock ?_ | refine rn_skip ?_ | refine rn_true rfl ?_ | refine rn_false rfl ?_ | refine rn_exit rfl ?_ | refine pl_not rfl rfl ?_)
  exact rn_ret Try.func27 (.inl ⟨_, rfl, rfl⟩) ⟨owns_wds ho h.wl, hk⟩
end
end E
end Go.Proofs.Ytcnjmjdnlhiflab
