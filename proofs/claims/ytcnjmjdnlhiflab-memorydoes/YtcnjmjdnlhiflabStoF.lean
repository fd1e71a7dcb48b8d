/- The contracts of a commit's write, flush, lay, and of store.first. -/
import Derived.Test.YtcnjmjdnlhiflabStoE
namespace Go.Proofs.Ytcnjmjdnlhiflab
set_option maxRecDepth 20000
namespace E
open Go.Proofs

theorem lay1_ret {B : Nat} {w : World} {c s x : Nat} {N : List Int} {K : List Bool} {dv : Value} {fvs : List Value} {D : List Deed} (h : ComV B w c s N K dv fvs D) (hx : Blk w x [.pointer (some ⟨c, 0, none⟩)] 76) (j : Nat) (hj : j < 34) :
    Ret Try.prog 48 [.int .i64 (j : Nat), .pointer (some ⟨x, 0, none⟩)] w fun v w' => v = .bool (!K.getD j false) ∧ w' = w := by
  refine ret_of 11 Try.func48 rfl rfl (by simp) ?_
  repeat (first | refine pl_pure hT rfl rfl rfl ?_ | refine pl_nil ?_ | refine rn_seq ?_ | refine rn_plain ?_ | refine rn_block ?_ | refine rn_inBlock ?_ | refine rn_skip ?_ | refine rn_true rfl ?_ | refine rn_false rfl ?_ | refine rn_exit rfl ?_ | refine pl_not rfl rfl ?_)
  refine pl_val (.pointer (some ⟨c, 0, none⟩)) rfl rfl (val_load1 hT rfl rfl rfl (hx.cell rfl)) ?_
  repeat (first | refine pl_pure hT rfl rfl rfl ?_ | refine pl_nil ?_ | refine rn_seq ?_ | refine rn_plain ?_ | refine rn_block ?_ | refine rn_inBlock ?_ | refine rn_skip ?_ | refine rn_true rfl ?_ | refine rn_false rfl ?_ | refine rn_exit rfl ?_ | refine pl_not rfl rfl ?_)
  refine pl_val _ rfl rfl (val_indexArr j hT rfl rfl rfl rfl rfl hj w) ?_
  have hc := h.cellK (i := j) (x := K.getD j false) (by rw [List.getD_eq_getElem?_getD, List.getElem?_eq_getElem (by rw [h.klen]; exact hj)]; rfl)
  refine pl_val (.bool (K.getD j false)) rfl rfl (val_load1 hT rfl rfl rfl (by rw [Nat.zero_add, Nat.mul_one]; exact hc)) ?_
  repeat (first | refine pl_pure hT rfl rfl rfl ?_ | refine pl_nil ?_ | refine rn_seq ?_ | refine rn_plain ?_ | refine rn_block ?_ | refine rn_inBlock ?_ | refine rn_skip ?_ | refine rn_true rfl ?_ | refine rn_false rfl ?_ | refine rn_exit rfl ?_ | refine pl_not rfl rfl ?_)
  exact rn_ret Try.func48 (.inl ⟨_, rfl, rfl⟩) ⟨rfl, rfl⟩

def firstOf (f : Nat → Bool) : Nat := ((List.range 34).find? f).getD 0

theorem firstOf_some {f : Nat → Bool} {j : Nat} (hj : j < 34) (h : ∀ k, k < j → f k = false) (hf : f j = true) : firstOf f = j := by
  have : (List.range 34).find? f = some j := by
    rw [List.find?_range_eq_some]
    exact ⟨hf, List.mem_range.2 hj, fun k hk => by simp [h k hk]⟩
  simp [firstOf, this]
theorem firstOf_none {f : Nat → Bool} (h : ∀ k, k < 34 → f k = false) : firstOf f = 0 := by
  have : (List.range 34).find? f = none := by
    rw [List.find?_eq_none]
    intro k hk
    simp [h k (List.mem_range.1 hk)]
  simp [firstOf, this]

theorem first_ret {w : World} (f : Nat → Bool) (g : Nat) (cap : List Value) (hg : callable Try.prog g = true) (hclo : ∀ j, j < 34 → Ret Try.prog g (.int .i64 (j : Nat) :: cap) w fun v w' => v = .bool (f j) ∧ w' = w) :
    Ret Try.prog 47 [.func (.func g) #[] cap.toArray] w fun v w' => v = .int .i64 (firstOf f : Nat) ∧ w' = w := by
  refine ret_of 12 Try.func47 rfl rfl (by simp) ?_
  repeat (first | refine pl_pure hT rfl rfl rfl ?_ | refine pl_nil ?_ | refine rn_seq ?_ | refine rn_plain ?_ | refine rn_block ?_ | refine rn_inBlock ?_ | refine rn_skip ?_ | refine rn_true rfl ?_ | refine rn_false rfl ?_ | refine rn_exit rfl ?_ | refine pl_not rfl rfl ?_)
  refine rn_ind (fun m σ w' => ∃ j, m = 34 - j ∧ j ≤ 34 ∧ σ = [(0, .func (.func g) #[] cap.toArray), (4, .int .i64 (j : Nat))] ∧ w' = w ∧ ∀ k, k < j → f k = false)
    (34 - 0) _ ?_ ⟨0, rfl, by decide, rfl, rfl, by simp⟩ ?_
  · exact ⟨rfl, rfl, trivial⟩
  rintro m σ w2 ih ⟨j, hm, hj, rfl, rfl, hno⟩
  repeat (first | refine pl_pure hT rfl rfl rfl ?_ | refine pl_nil ?_ | refine rn_seq ?_ | refine rn_plain ?_ | refine rn_block ?_ | refine rn_inBlock ?_ | refine rn_skip ?_ | refine rn_true rfl ?_ | refine rn_false rfl ?_ | refine rn_exit rfl ?_ | refine pl_not rfl rfl ?_)
  rcases Nat.lt_or_ge j 34 with hlt | hge
  · refine pl_val (.bool true) rfl rfl (val_int .i64 _ _ _ rfl rfl rfl (by simp [intOp]; omega) w2) ?_
    repeat (first | refine pl_pure hT rfl rfl rfl ?_ | refine pl_nil ?_ | refine rn_seq ?_ | refine rn_plain ?_ | refine rn_block ?_ | refine rn_inBlock ?_ | refine rn_skip ?_ | refine rn_true rfl ?_ | refine rn_false rfl ?_ | refine rn_exit rfl ?_ | refine pl_not rfl rfl ?_)
    refine pl_op rfl rfl (opTo_call rfl rfl rfl rfl hg ((hclo j hlt).mono ?_))
    rintro v w3 ⟨rfl, rfl⟩
    cases hf : f j with
    | true =>
      repeat (first | refine pl_pure hT rfl rfl rfl ?_ | refine pl_nil ?_ | refine rn_seq ?_ | refine rn_plain ?_ | refine rn_block ?_ | refine rn_inBlock ?_ | refine rn_skip ?_ | refine rn_true rfl ?_ | refine rn_false rfl ?_ | refine rn_exit rfl ?_ | refine pl_not rfl rfl ?_)
      exact rn_ret Try.func47 (.inl ⟨_, rfl, rfl⟩) ⟨by rw [firstOf_some hlt hno hf], rfl⟩
    | false =>
      repeat (first | refine pl_pure hT rfl rfl rfl ?_ | refine pl_nil ?_ | refine rn_seq ?_ | refine rn_plain ?_ | refine rn_block ?_ | refine rn_inBlock ?_ | refine rn_skip ?_ | refine rn_true rfl ?_ | refine rn_false rfl ?_ | refine rn_exit rfl ?_ | refine pl_not rfl rfl ?_)
      refine pl_val (.int .i64 ((j + 1 : Nat) : Int)) rfl rfl (val_int .i64 j 1 _ rfl rfl rfl (by simp only [intOp]; rw [wrap_i64 (by omega) (by omega)]; rfl) w3) ?_
      repeat (first | refine pl_pure hT rfl rfl rfl ?_ | refine pl_nil ?_ | refine rn_seq ?_ | refine rn_plain ?_ | refine rn_block ?_ | refine rn_inBlock ?_ | refine rn_skip ?_ | refine rn_true rfl ?_ | refine rn_false rfl ?_ | refine rn_exit rfl ?_ | refine pl_not rfl rfl ?_)
      refine rn_sub ?_ (ih (34 - (j + 1)) _ w3 (by omega) ⟨j + 1, rfl, hlt, rfl, rfl, fun k hk => ?_⟩)
      · exact ⟨rfl, rfl, trivial⟩
      · rcases Nat.lt_or_ge k j with h | h
        · exact hno k h
        · have : k = j := by omega
          rw [this]; exact hf
  · refine pl_val (.bool false) rfl rfl (val_int .i64 _ _ _ rfl rfl rfl (by simp [intOp]; omega) w2) ?_
    repeat (first | refine pl_pure hT rfl rfl rfl ?_ | refine pl_nil ?_ | refine rn_seq ?_ | refine rn_plain ?_ | refine rn_block ?_ | refine rn_inBlock ?_ | refine rn_skip ?_ | refine rn_true rfl ?_ | refine rn_false rfl ?_ | refine rn_exit rfl ?_ | refine pl_not rfl rfl ?_)
    exact rn_ret Try.func47 (.inl ⟨_, rfl, rfl⟩) ⟨by rw [firstOf_none fun k hk => hno k (by omega)]; rfl, rfl⟩

theorem ccells_atD {s : Nat} {N : List Int} {K : List Bool} {dv : Value} (hN : N.length = 17) (hK : K.length = 34) : (ccells s N K dv)[0 + 52]? = some dv := by
  simp only [ccells]
  rw [List.getElem?_append_right (by simp [ints_length, hN]), List.getElem?_append_right (by simp [ints_length, bools_length, hN, hK])]
  simp [ints_length, bools_length, hN, hK]

/-- The append of a deed alone. -/
theorem ComV.app1 {B : Nat} {w w1 : World} {c s g : Nat} {N : List Int} {K : List Bool} {dv : Value} {fvs : List Value} {D : List Deed} (h : ComV B w c s N K dv fvs D)
    (hor : (dv.ownBlock = some g ∧ D.length + 1 ≤ capOf dv ∧ Keep [g] w w1) ∨ (g = w.heap.size ∧ Keep [] w w1 ∧ w1.heap.size = w.heap.size + 1)) : Tch B w w1 := by
  have hB : B ≤ w.heap.size := Nat.le_trans h.base (Nat.le_of_lt h.blk.lt)
  rcases hor with ⟨e, _, hk⟩ | ⟨e, hk, _⟩
  · refine hk.tch hB fun k hm => ?_
    simp at hm
    subst hm
    obtain ⟨L, hL⟩ := h.own.typ k (by simp [e])
    exact ⟨(h.own.lt k e).1, fun L' e' hb => by rw [blk_typ hb hL]; decide⟩
  · exact hk.tch0 hB

/-- What an append of one deed leaves: the commit with it. -/
theorem ComV.app {B : Nat} {w w1 : World} {c s g cap : Nat} {N : List Int} {K : List Bool} {dv fv : Value} {fvs : List Value} {D : List Deed} {d : Deed} (h : ComV B w c s N K dv fvs D) (hd : DeedV w c fv d)
    (hown : Own w1 B 1 1 (.slice (some ⟨g, 0, none⟩) (D.length + 1) cap) (D.length + 1) (fvs ++ [fv]))
    (hor : (dv.ownBlock = some g ∧ D.length + 1 ≤ capOf dv ∧ Keep [g] w w1) ∨ (g = w.heap.size ∧ Keep [] w w1 ∧ w1.heap.size = w.heap.size + 1)) :
    Blk w1 c (ccells s N K dv) 86 ∧ ComV B (w1.setRow c (ccells s N K (.slice (some ⟨g, 0, none⟩) (D.length + 1) cap)).toArray) c s N K (.slice (some ⟨g, 0, none⟩) (D.length + 1) cap) (fvs ++ [fv]) (D ++ [d]) ∧
      Tch B w (w1.setRow c (ccells s N K (.slice (some ⟨g, 0, none⟩) (D.length + 1) cap)).toArray) := by
  have hB : B ≤ w.heap.size := Nat.le_trans h.base (Nat.le_of_lt h.blk.lt)
  obtain ⟨hk, ht1⟩ : Keep [g] w w1 ∧ Tch B w w1 := by
    rcases hor with ⟨e, _, hk⟩ | ⟨e, hk, _⟩
    · refine ⟨hk, hk.tch hB fun k hm => ?_⟩
      simp at hm
      subst hm
      obtain ⟨L, hL⟩ := h.own.typ k (by simp [e])
      exact ⟨(h.own.lt k e).1, fun L' e' hb => by rw [blk_typ hb hL]; decide⟩
    · exact ⟨hk.of0, hk.tch0 hB⟩
  have hcg : c ≠ g := by
    rcases hor with ⟨e, _, _⟩ | ⟨e, _, _⟩
    · exact fun h' => h.notDv g e h'.symm
    · have := h.blk.lt; omega
  have hb1 : Blk w1 c (ccells s N K dv) 86 := hk.blk h.blk (by simpa using hcg)
  have hk2 : Keep [c] w1 (w1.setRow c (ccells s N K (.slice (some ⟨g, 0, none⟩) (D.length + 1) cap)).toArray) := (Keep.refl _ _).setRow _ _ (.inl (by simp))
  have ht2 : Tch B w1 (w1.setRow c (ccells s N K (.slice (some ⟨g, 0, none⟩) (D.length + 1) cap)).toArray) := hk2.tch (Nat.le_trans hB hk.size) fun k hm => by
    simp at hm
    subst hm
    exact ⟨h.base, fun L e hb => by rw [blk_typ hb hb1]; decide⟩
  refine ⟨hb1, ⟨hb1.set _, h.base, h.nlen, h.klen, ?_, ?_⟩, ht1.trans ht2⟩
  · have := hown.keep hk2 (fun k e => by simp [Value.ownBlock] at e; subst e; simpa using Ne.symm hcg)
    simpa using this
  · intro j d' hj
    have hlen : fvs.length = D.length := by simpa using h.own.1
    rcases Nat.lt_or_ge j D.length with hlt | hge
    · rw [List.getElem?_append_left hlt] at hj
      obtain ⟨fv', h1, h2⟩ := h.fs j d' hj
      exact ⟨fv', by rw [List.getElem?_append_left (by omega)]; exact h1, (h2.tch ht1).tch ht2⟩
    · rw [List.getElem?_append_right hge] at hj
      have h0 : j - D.length = 0 := by
        rcases Nat.eq_zero_or_pos (j - D.length) with h0 | h0
        · exact h0
        · rw [List.getElem?_eq_none (by simp; omega)] at hj; cases hj
      rw [h0] at hj
      simp at hj
      subst hj
      exact ⟨fv, by rw [List.getElem?_append_right (by omega), hlen, h0]; rfl, (hd.tch ht1).tch ht2⟩

theorem slice_deed (fv : Value) (h : fv.oneCell' = true) : sliceCells Try.prog 84 1 [(0, fv)] = some (1, [fv].toArray) := by
  cases fv <;> first | (cases h; done) | kernel_rfl

theorem cflush_ret {B : Nat} {w : World} {c s : Nat} {N : List Int} {K : List Bool} {dv : Value} {fvs : List Value} {D : List Deed} (h : ComV B w c s N K dv fvs D) (hD : D.length < 1000) :
    Ret Try.prog 32 [.pointer (some ⟨c, 0, none⟩)] w fun v w' => v = .tuple #[] ∧ (∃ dv' fvs', ComV B w' c s N K dv' fvs' (D ++ [none])) ∧ Tch B w w' := by
  refine ret_of 12 Try.func32 rfl rfl (by simp) ?_
  repeat (first | refine pl_pure hT rfl rfl rfl ?_ | refine pl_nil ?_ | refine rn_seq ?_ | refine rn_plain ?_ | refine rn_block ?_ | refine rn_inBlock ?_ | refine rn_skip ?_ | refine rn_true rfl ?_ | refine rn_false rfl ?_ | refine rn_exit rfl ?_ | refine pl_not rfl rfl ?_)
  refine pl_op rfl rfl (opTo_box [.pointer (some ⟨c, 0, none⟩)] rfl rfl rfl ?_)
  have hB : B ≤ w.heap.size := Nat.le_trans h.base (Nat.le_of_lt h.blk.lt)
  have hk1 : Keep [] w (w.alloc (.cells [Value.pointer (some ⟨c, 0, none⟩)].toArray 76)) := (Keep.refl _ _).alloc _
  have hx1 := Blk.new w [Value.pointer (some ⟨c, 0, none⟩)] 76
  have ht1 := hk1.tch0 hB
  have h1 := h.keep0 hk1
  generalize (w.alloc (.cells [Value.pointer (some ⟨c, 0, none⟩)].toArray 76)) = w1 at *
  have hB1 : B ≤ w1.heap.size := Nat.le_trans hB ht1.size
  generalize w.heap.size = x at hx1
  repeat (first | refine pl_pure hT rfl rfl rfl ?_ | refine pl_nil ?_ | refine rn_seq ?_ | refine rn_plain ?_ | refine rn_block ?_ | refine rn_inBlock ?_ | refine rn_skip ?_ | refine rn_true rfl ?_ | refine rn_false rfl ?_ | refine rn_exit rfl ?_ | refine pl_not rfl rfl ?_)
  have hS0 : Blk w1.drew x [.pointer (some ⟨c, 0, none⟩)] 76 ∧ Blk w1.drew c (ccells s N K dv) 86 := ⟨hx1, h1.blk⟩
  have hcd : ∀ w', Blk w' c (ccells s N K dv) 86 → w'.cell? ⟨c, 0 + 52, none⟩ = some dv := fun w' hb => hb.cell (ccells_atD h.nlen h.klen)
  refine rn_draw (fun w' => Blk w' x [.pointer (some ⟨c, 0, none⟩)] 76 ∧ Blk w' c (ccells s N K dv) 86) [10] hMix ?_
  refine dr_val 0 (.pointer (some ⟨c, 0, none⟩)) rfl (by decide +kernel) rfl rfl (fun w' hk => val_load1 hT rfl rfl rfl (hk.1.cell rfl)) hS0 ?_
  refine dr_val 1 (.pointer (some ⟨c, 0, none⟩)) rfl (by decide +kernel) rfl rfl (fun w' hk => val_load1 hT rfl rfl rfl (hk.1.cell rfl)) hS0 ?_
  refine dr_pure 2 hT rfl (by decide +kernel) rfl rfl rfl ?_
  refine dr_pure 3 hT rfl (by decide +kernel) rfl rfl rfl ?_
  refine dr_val 4 dv rfl (by decide +kernel) rfl rfl (fun w' hk => val_load1 hT rfl rfl rfl (hcd w' hk.2)) hS0 ?_
  refine dr_pure 5 hT rfl (by decide +kernel) rfl rfl rfl ?_
  refine dr_op 6 rfl (by decide +kernel) rfl rfl (opTo_buildSlice _ [_] rfl rfl (slice_deed _ rfl) ⟨fun _ => ⟨hS0.1.alloc _, hS0.2.alloc _⟩, ?_⟩)
  have hk2 := ((Keep.refl [] w1).drew).alloc (.cells [Value.func (.func 49) #[] #[.pointer (some ⟨x, 0, none⟩)]].toArray 1)
  have hy2 := Blk.new w1.drew [Value.func (.func 49) #[] #[.pointer (some ⟨x, 0, none⟩)]] 1
  have h2 := h1.keep0 hk2
  have hx2 := hk2.blk hx1 (by simp)
  have ht2 := hk2.tch0 hB1
  have hB2 : B ≤ (w1.drew.alloc (.cells [Value.func (.func 49) #[] #[.pointer (some ⟨x, 0, none⟩)]].toArray 1)).heap.size := Nat.le_trans hB1 ht2.size
  have hd : DeedV (w1.drew.alloc (.cells [Value.func (.func 49) #[] #[.pointer (some ⟨x, 0, none⟩)]].toArray 1)) c (Value.func (.func 49) #[] #[.pointer (some ⟨x, 0, none⟩)]) none := ⟨x, rfl, hx2⟩
  refine dr_op 7 rfl (by decide +kernel) rfl rfl (opTo_app B 1 1 8 fvs [Value.func (.func 49) #[] #[.pointer (some ⟨x, 0, none⟩)]] rfl rfl rfl (by decide +kernel) h2.own (hy2.range rfl) rfl (by simp; rfl) (by decide) (by unfold maxLen; omega) (by omega) hB2 ?_)
  intro g cap w3 hown hor
  obtain ⟨hb3, h4, ht4⟩ := h2.app hd hown hor
  have ht3 := h2.app1 hor
  refine ⟨fun _ => ⟨ht3.typ _ _ _ hx2 (by decide), hb3⟩, ?_⟩
  refine dr_pure 8 hT rfl (by decide +kernel) rfl rfl rfl ?_
  refine dr_pure 9 hT rfl (by decide +kernel) rfl rfl rfl ?_
  refine dr_op 10 rfl (by decide +kernel) rfl rfl (opTo_store _ rfl rfl rfl rfl (by kernel_rfl) hb3 (by rw [ccells_length h.nlen h.klen]; simp) (by simp; rfl) ⟨fun hn => absurd (by simp) hn, ?_⟩)
  rw [show splice (ccells s N K dv) (0 + 52) [Value.slice (some ⟨g, 0, none⟩) (D.length + 1) cap] = ccells s N K (.slice (some ⟨g, 0, none⟩) (D.length + 1) cap) from ccells_setD h.nlen h.klen _]
  refine dr_done (by decide +kernel) ?_
  exact rn_end Try.func32 (.inr (.inl ⟨rfl, rfl⟩)) ⟨rfl, ⟨_, _, h4⟩, (ht1.trans ht2).trans ht4⟩

theorem cwrite_ret {B : Nat} {w : World} {c s : Nat} {N : List Int} {K : List Bool} {dv : Value} {fvs : List Value} {D : List Deed} (h : ComV B w c s N K dv fvs D) (hD : D.length < 1000) (a : Int) {ws : List Int} (hw : ws.length = 8) :
    Ret Try.prog 33 [.pointer (some ⟨c, 0, none⟩), .int .i64 a, .agg (ints ws).toArray] w fun v w' => v = .tuple #[] ∧ (∃ dv' fvs', ComV B w' c s N K dv' fvs' (D ++ [some (a, ws)])) ∧ Tch B w w' := by
  refine ret_of 16 Try.func33 rfl rfl (by simp) ?_
  repeat (first | refine pl_pure hT rfl rfl rfl ?_ | refine pl_nil ?_ | refine rn_seq ?_ | refine rn_plain ?_ | refine rn_block ?_ | refine rn_inBlock ?_ | refine rn_skip ?_ | refine rn_true rfl ?_ | refine rn_false rfl ?_ | refine rn_exit rfl ?_ | refine pl_not rfl rfl ?_)
  refine pl_op rfl rfl (opTo_box [.pointer (some ⟨c, 0, none⟩)] rfl rfl rfl ?_)
  refine pl_op rfl rfl (opTo_box [.int .i64 a] rfl rfl rfl ?_)
  refine pl_op rfl rfl (opTo_box (ints ws) rfl rfl rfl ?_)
  have hB : B ≤ w.heap.size := Nat.le_trans h.base (Nat.le_of_lt h.blk.lt)
  rw [World.size_alloc, World.size_alloc, World.size_alloc]
  have hk1 : Keep [] w (((w.alloc (.cells [Value.pointer (some ⟨c, 0, none⟩)].toArray 76)).alloc (.cells [Value.int .i64 a].toArray 2)).alloc (.cells (ints ws).toArray 37)) := (((Keep.refl _ _).alloc _).alloc _).alloc _
  have hx1 := ((Blk.new w [Value.pointer (some ⟨c, 0, none⟩)] 76).alloc (.cells [Value.int .i64 a].toArray 2)).alloc (.cells (ints ws).toArray 37)
  have hy1 := (Blk.new (w.alloc (.cells [Value.pointer (some ⟨c, 0, none⟩)].toArray 76)) [Value.int .i64 a] 2).alloc (.cells (ints ws).toArray 37)
  have hz1 := Blk.new ((w.alloc (.cells [Value.pointer (some ⟨c, 0, none⟩)].toArray 76)).alloc (.cells [Value.int .i64 a].toArray 2)) (ints ws) 37
  rw [World.size_alloc] at hy1 hz1
  rw [World.size_alloc] at hz1
  have ht1 := hk1.tch0 hB
  have h1 := h.keep0 hk1
  generalize (((w.alloc (.cells [Value.pointer (some ⟨c, 0, none⟩)].toArray 76)).alloc (.cells [Value.int .i64 a].toArray 2)).alloc (.cells (ints ws).toArray 37)) = w1 at *
  have hB1 : B ≤ w1.heap.size := Nat.le_trans hB ht1.size
  generalize w.heap.size + 1 + 1 = z at hz1 ⊢
  generalize w.heap.size + 1 = y at hy1 ⊢
  generalize w.heap.size = x at hx1
  repeat (first | refine pl_pure hT rfl rfl rfl ?_ | refine pl_nil ?_ | refine rn_seq ?_ | refine rn_plain ?_ | refine rn_block ?_ | refine rn_inBlock ?_ | refine rn_skip ?_ | refine rn_true rfl ?_ | refine rn_false rfl ?_ | refine rn_exit rfl ?_ | refine pl_not rfl rfl ?_)
  have hS0 : Blk w1.drew x [.pointer (some ⟨c, 0, none⟩)] 76 ∧ Blk w1.drew c (ccells s N K dv) 86 := ⟨hx1, h1.blk⟩
  have hcd : ∀ w', Blk w' c (ccells s N K dv) 86 → w'.cell? ⟨c, 0 + 52, none⟩ = some dv := fun w' hb => hb.cell (ccells_atD h.nlen h.klen)
  refine rn_draw (fun w' => Blk w' x [.pointer (some ⟨c, 0, none⟩)] 76 ∧ Blk w' c (ccells s N K dv) 86) [10] hMix ?_
  refine dr_val 0 (.pointer (some ⟨c, 0, none⟩)) rfl (by decide +kernel) rfl rfl (fun w' hk => val_load1 hT rfl rfl rfl (hk.1.cell rfl)) hS0 ?_
  refine dr_val 1 (.pointer (some ⟨c, 0, none⟩)) rfl (by decide +kernel) rfl rfl (fun w' hk => val_load1 hT rfl rfl rfl (hk.1.cell rfl)) hS0 ?_
  refine dr_pure 2 hT rfl (by decide +kernel) rfl rfl rfl ?_
  refine dr_pure 3 hT rfl (by decide +kernel) rfl rfl rfl ?_
  refine dr_val 4 dv rfl (by decide +kernel) rfl rfl (fun w' hk => val_load1 hT rfl rfl rfl (hcd w' hk.2)) hS0 ?_
  refine dr_pure 5 hT rfl (by decide +kernel) rfl rfl rfl ?_
  refine dr_op 6 rfl (by decide +kernel) rfl rfl (opTo_buildSlice _ [_] rfl rfl (slice_deed _ rfl) ⟨fun _ => ⟨hS0.1.alloc _, hS0.2.alloc _⟩, ?_⟩)
  have hk2 := ((Keep.refl [] w1).drew).alloc (.cells [Value.func (.func 51) #[] #[.pointer (some ⟨x, 0, none⟩), .pointer (some ⟨y, 0, none⟩), .pointer (some ⟨z, 0, none⟩)]].toArray 1)
  have hy2 := Blk.new w1.drew [Value.func (.func 51) #[] #[.pointer (some ⟨x, 0, none⟩), .pointer (some ⟨y, 0, none⟩), .pointer (some ⟨z, 0, none⟩)]] 1
  have h2 := h1.keep0 hk2
  have hx2 := hk2.blk hx1 (by simp)
  have ht2 := hk2.tch0 hB1
  have hB2 : B ≤ (w1.drew.alloc (.cells [Value.func (.func 51) #[] #[.pointer (some ⟨x, 0, none⟩), .pointer (some ⟨y, 0, none⟩), .pointer (some ⟨z, 0, none⟩)]].toArray 1)).heap.size := Nat.le_trans hB1 ht2.size
  have hd : DeedV (w1.drew.alloc (.cells [Value.func (.func 51) #[] #[.pointer (some ⟨x, 0, none⟩), .pointer (some ⟨y, 0, none⟩), .pointer (some ⟨z, 0, none⟩)]].toArray 1)) c (Value.func (.func 51) #[] #[.pointer (some ⟨x, 0, none⟩), .pointer (some ⟨y, 0, none⟩), .pointer (some ⟨z, 0, none⟩)]) (some (a, ws)) := ⟨x, y, z, rfl, hx2, hk2.blk hy1 (by simp), hk2.blk hz1 (by simp), hw⟩
  refine dr_op 7 rfl (by decide +kernel) rfl rfl (opTo_app B 1 1 8 fvs [Value.func (.func 51) #[] #[.pointer (some ⟨x, 0, none⟩), .pointer (some ⟨y, 0, none⟩), .pointer (some ⟨z, 0, none⟩)]] rfl rfl rfl (by decide +kernel) h2.own (hy2.range rfl) rfl (by simp; rfl) (by decide) (by unfold maxLen; omega) (by omega) hB2 ?_)
  intro g cap w3 hown hor
  obtain ⟨hb3, h4, ht4⟩ := h2.app hd hown hor
  have ht3 := h2.app1 hor
  refine ⟨fun _ => ⟨ht3.typ _ _ _ hx2 (by decide), hb3⟩, ?_⟩
  refine dr_pure 8 hT rfl (by decide +kernel) rfl rfl rfl ?_
  refine dr_pure 9 hT rfl (by decide +kernel) rfl rfl rfl ?_
  refine dr_op 10 rfl (by decide +kernel) rfl rfl (opTo_store _ rfl rfl rfl rfl (by kernel_rfl) hb3 (by rw [ccells_length h.nlen h.klen]; simp) (by simp; rfl) ⟨fun hn => absurd (by simp) hn, ?_⟩)
  rw [show splice (ccells s N K dv) (0 + 52) [Value.slice (some ⟨g, 0, none⟩) (D.length + 1) cap] = ccells s N K (.slice (some ⟨g, 0, none⟩) (D.length + 1) cap) from ccells_setD h.nlen h.klen _]
  refine dr_done (by decide +kernel) ?_
  exact rn_end Try.func33 (.inr (.inl ⟨rfl, rfl⟩)) ⟨rfl, ⟨_, _, h4⟩, (ht1.trans ht2).trans ht4⟩


def freeK (K : List Bool) : Nat := firstOf fun i => !K.getD i false

theorem lay_ret {B : Nat} {w : World} {c s : Nat} {N : List Int} {K : List Bool} {dv : Value} {fvs : List Value} {D : List Deed} (h : ComV B w c s N K dv fvs D) (hD : D.length < 1000) {ws : List Int} (hw : ws.length = 8) :
    Ret Try.prog 30 [.pointer (some ⟨c, 0, none⟩), .agg (ints ws).toArray] w fun v w' => v = .int .i64 (freeK K : Nat) ∧ (∃ dv' fvs', ComV B w' c s N (takeK K (freeK K : Nat)) dv' fvs' (D ++ [some (((freeK K : Nat) : Int), ws)])) ∧ Tch B w w' := by
  refine ret_of 16 Try.func30 rfl rfl (by simp) ?_
  repeat (first | refine pl_pure hT rfl rfl rfl ?_ | refine pl_nil ?_ | refine rn_seq ?_ | refine rn_plain ?_ | refine rn_block ?_ | refine rn_inBlock ?_ | refine rn_skip ?_ | refine rn_true rfl ?_ | refine rn_false rfl ?_ | refine rn_exit rfl ?_ | refine pl_not rfl rfl ?_)
  refine pl_op rfl rfl (opTo_box [.pointer (some ⟨c, 0, none⟩)] rfl rfl rfl ?_)
  refine pl_op rfl rfl (opTo_box (ints ws) rfl rfl rfl ?_)
  have hB : B ≤ w.heap.size := Nat.le_trans h.base (Nat.le_of_lt h.blk.lt)
  rw [World.size_alloc]
  have hk1 : Keep [] w ((w.alloc (.cells [Value.pointer (some ⟨c, 0, none⟩)].toArray 76)).alloc (.cells (ints ws).toArray 37)) := ((Keep.refl _ _).alloc _).alloc _
  have hx1 := (Blk.new w [Value.pointer (some ⟨c, 0, none⟩)] 76).alloc (.cells (ints ws).toArray 37)
  have hz1 := Blk.new (w.alloc (.cells [Value.pointer (some ⟨c, 0, none⟩)].toArray 76)) (ints ws) 37
  rw [World.size_alloc] at hz1
  have ht1 := hk1.tch0 hB
  have h1 := h.keep0 hk1
  generalize ((w.alloc (.cells [Value.pointer (some ⟨c, 0, none⟩)].toArray 76)).alloc (.cells (ints ws).toArray 37)) = w1 at *
  generalize w.heap.size + 1 = z at hz1 ⊢
  generalize w.heap.size = x at hx1
  repeat (first | refine pl_pure hT rfl rfl rfl ?_ | refine pl_nil ?_ | refine rn_seq ?_ | refine rn_plain ?_ | refine rn_block ?_ | refine rn_inBlock ?_ | refine rn_skip ?_ | refine rn_true rfl ?_ | refine rn_false rfl ?_ | refine rn_exit rfl ?_ | refine pl_not rfl rfl ?_)
  refine pl_op rfl rfl (opTo_call rfl rfl rfl rfl (by decide +kernel) ((first_ret (fun i => !K.getD i false) 48 [.pointer (some ⟨x, 0, none⟩)] (by decide +kernel) fun j hj => lay1_ret h1 hx1 j hj).mono ?_))
  rintro v w2 ⟨rfl, rfl⟩
  rw [show (firstOf fun i => !K.getD i false) = freeK K from rfl]
  repeat (first | refine pl_pure hT rfl rfl rfl ?_ | refine pl_nil ?_ | refine rn_seq ?_ | refine rn_plain ?_ | refine rn_block ?_ | refine rn_inBlock ?_ | refine rn_skip ?_ | refine rn_true rfl ?_ | refine rn_false rfl ?_ | refine rn_exit rfl ?_ | refine pl_not rfl rfl ?_)
  refine pl_val (.pointer (some ⟨c, 0, none⟩)) rfl rfl (val_load1 hT rfl rfl rfl (hx1.cell rfl)) ?_
  repeat (first | refine pl_pure hT rfl rfl rfl ?_ | refine pl_nil ?_ | refine rn_seq ?_ | refine rn_plain ?_ | refine rn_block ?_ | refine rn_inBlock ?_ | refine rn_skip ?_ | refine rn_true rfl ?_ | refine rn_false rfl ?_ | refine rn_exit rfl ?_ | refine pl_not rfl rfl ?_)
  refine pl_op rfl rfl (opTo_call rfl rfl rfl rfl (by decide +kernel) ((take_ret h1 (freeK K : Nat)).mono ?_))
  rintro v w3 ⟨rfl, h3, ht3⟩
  have hx3 := ht3.typ _ _ _ hx1 (by decide)
  have hz3 := ht3.typ _ _ _ hz1 (by decide)
  repeat (first | refine pl_pure hT rfl rfl rfl ?_ | refine pl_nil ?_ | refine rn_seq ?_ | refine rn_plain ?_ | refine rn_block ?_ | refine rn_inBlock ?_ | refine rn_skip ?_ | refine rn_true rfl ?_ | refine rn_false rfl ?_ | refine rn_exit rfl ?_ | refine pl_not rfl rfl ?_)
  refine pl_val (.pointer (some ⟨c, 0, none⟩)) rfl rfl (val_load1 hT rfl rfl rfl (hx3.cell rfl)) ?_
  repeat (first | refine pl_pure hT rfl rfl rfl ?_ | refine pl_nil ?_ | refine rn_seq ?_ | refine rn_plain ?_ | refine rn_block ?_ | refine rn_inBlock ?_ | refine rn_skip ?_ | refine rn_true rfl ?_ | refine rn_false rfl ?_ | refine rn_exit rfl ?_ | refine pl_not rfl rfl ?_)
  refine pl_val (.agg (ints ws).toArray) rfl rfl (val_load _ hT rfl rfl (by rw [ints_length, hw]; rfl) (hz3.range (by simp))) ?_
  refine pl_op rfl rfl (opTo_call rfl rfl rfl rfl (by decide +kernel) ((cwrite_ret h3 hD (freeK K : Nat) hw).mono ?_))
  rintro v w4 ⟨rfl, h4, ht4⟩
  repeat (first | refine pl_pure hT rfl rfl rfl ?_ | refine pl_nil ?_ | refine rn_seq ?_ | refine rn_plain ?_ | refine rn_block ?_ | refine rn_inBlock ?_ | refine rn_skip ?_ | refine rn_true rfl ?_ | refine rn_false rfl ?_ | refine rn_exit rfl ?_ | refine pl_not rfl rfl ?_)
  exact rn_ret Try.func30 (.inl ⟨_, rfl, rfl⟩) ⟨rfl, h4, (ht1.trans ht3).trans ht4⟩
end E
end Go.Proofs.Ytcnjmjdnlhiflab
