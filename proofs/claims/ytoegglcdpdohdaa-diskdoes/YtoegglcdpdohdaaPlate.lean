/- The document's own disk (Plate): what it is in memory, and the contracts of its methods Write, read, Read, Holds, Flush. -/
import Derived.Test.YtoegglcdpdohdaaOwn
import Derived.Test.YtoegglcdpdohdaaDiskM
namespace Go.Proofs.Ytoegglcdpdohdaa
namespace E
open Go.Proofs

def acell (p : Wr) : List Value := [.int .i64 p.1]
def acells (Q : List Wr) : List Value := Q.flatMap acell
def qcells (Q : List Wr) : List Value := Q.flatMap fun p => ints p.2

structure PlateV (B : Nat) (w : World) (p : Nat) (Q : List Wr) (n : Nat) (av wv : Value) : Prop where
  blk : Blk w p [av, wv, .int .i64 n] 30
  oa : Own w B 3 1 av Q.length (acells Q)
  ow : Own w B 32 8 wv Q.length (qcells Q)
  d1 : av.ownBlock ≠ some p
  d2 : wv.ownBlock ≠ some p
  d3 : ∀ k, av.ownBlock = some k → wv.ownBlock ≠ some k
  le : n ≤ Q.length
  base : B ≤ p
  wf : ∀ q ∈ Q, q.1 < 34 ∧ q.2.length = 8

def fpP (p : Nat) (av wv : Value) : List Nat := p :: (av.ownBlock.toList ++ wv.ownBlock.toList)

section
variable {B : Nat} {w w' : World} {p : Nat} {Q : List Wr} {n : Nat} {av wv : Value}

theorem mem_fpP {k : Nat} : k ∈ fpP p av wv ↔ k = p ∨ av.ownBlock = some k ∨ wv.ownBlock = some k := by
  simp [fpP, Option.mem_toList]

theorem PlateV.keep {fp : List Nat} (h : PlateV B w p Q n av wv) (hk : Keep fp w w') (hn : ∀ k ∈ fpP p av wv, k ∉ fp) : PlateV B w' p Q n av wv :=
  ⟨hk.blk h.blk (hn p (mem_fpP.2 (.inl rfl))), h.oa.keep hk fun k e => hn k (mem_fpP.2 (.inr (.inl e))), h.ow.keep hk fun k e => hn k (mem_fpP.2 (.inr (.inr e))), h.d1, h.d2, h.d3, h.le, h.base, h.wf⟩
theorem PlateV.lt (h : PlateV B w p Q n av wv) : ∀ k ∈ fpP p av wv, B ≤ k ∧ k < w.heap.size := by
  intro k hk
  rcases mem_fpP.1 hk with rfl | hk | hk
  · exact ⟨h.base, h.blk.lt⟩
  · exact h.oa.lt k hk
  · exact h.ow.lt k hk

theorem acells_snoc (Q : List Wr) (q : Wr) : acells (Q ++ [q]) = acells Q ++ acell q := by simp [acells]
theorem qcells_snoc (Q : List Wr) (q : Wr) : qcells (Q ++ [q]) = qcells Q ++ ints q.2 := by simp [qcells]

theorem PlateV.atA (h : PlateV B w p Q n av wv) {j : Nat} {q : Wr} (hq : Q[j]? = some q) : ∃ g cap, av = .slice (some ⟨g, 0, none⟩) Q.length cap ∧ w.cell? ⟨g, 0 + j * 1, none⟩ = some (.int .i64 q.1) := by
  have hlt : j < Q.length := (List.getElem?_eq_some_iff.1 hq).1
  obtain ⟨g, cap, e, hr⟩ := h.oa.range (q := 0 + j * 1) (cs := acell q) (by
    rw [Nat.zero_add]
    exact flat_at (fun _ _ => rfl) hq) (by omega)
  exact ⟨g, cap, e, by simpa using hr 0 _ rfl⟩
theorem PlateV.atW (h : PlateV B w p Q n av wv) {j : Nat} {q : Wr} (hq : Q[j]? = some q) : ∃ g cap, wv = .slice (some ⟨g, 0, none⟩) Q.length cap ∧ w.rangeAt g (0 + j * 8) (ints q.2) := by
  have hlt : j < Q.length := (List.getElem?_eq_some_iff.1 hq).1
  refine h.ow.range ?_ (by omega)
  rw [Nat.zero_add, ints_length, (h.wf q (List.mem_of_getElem? hq)).2]
  exact flat_at (fun r hr => by rw [ints_length, (h.wf r hr).2]) hq

/-- What the document's disk reads. -/
def readQ (Q : List Wr) (i : Int) : List Int := ((lastOf (fun p => (p.1 : Int) == i) Q).getD wzero).2

theorem readQ_len (hQ : ∀ q ∈ Q, q.1 < 34 ∧ q.2.length = 8) (i : Int) : (readQ Q i).length = 8 := by
  unfold readQ
  cases hl : lastOf (fun p => (p.1 : Int) == i) Q with
  | none => rfl
  | some q => exact (hQ q (lastOf_mem hl)).2

theorem readQ_snoc (Q : List Wr) (q : Wr) (i : Int) : readQ (Q ++ [q]) i = if (q.1 : Int) = i then q.2 else readQ Q i := by
  unfold readQ
  rw [lastOf_snoc]
  by_cases e : (q.1 : Int) = i
  · simp [e]
  · have : ((q.1 : Int) == i) = false := by simpa using e
    simp [e, this]

theorem pread_ret (h : PlateV B w p Q n av wv) (i : Int) (m : Nat) (hm : m ≤ Q.length) (hQ : Q.length < 1000000) :
    Ret Try.prog 25 [.pointer (some ⟨p, 0, none⟩), .int .i64 i, .int .i64 (m : Nat)] w fun v w' => v = .agg (ints (readQ (Q.take m) i)).toArray ∧ Keep [] w w' := by
  refine ret_of 31 Try.func25 rfl rfl (by simp) ?_
  repeat (first | refine pl_pure hT rfl rfl rfl ?_ | refine pl_nil ?_ | refine rn_seq ?_ | refine rn_plain ?_ | refine rn_block ?_ | refine rn_inBlock ?_ | refine rn_skip ?_ | refine rn_true rfl ?_ | refine rn_false rfl ?_ | refine rn_exit rfl ?_ | refine pl_not rfl rfl ?_)
  refine pl_op rfl rfl (opTo_alloc _ rfl zero_words ?_)
  repeat (first | refine pl_pure hT rfl rfl rfl ?_ | refine pl_nil ?_ | refine rn_seq ?_ | refine rn_plain ?_ | refine rn_block ?_ | refine rn_inBlock ?_ | refine rn_skip ?_ | refine rn_true rfl ?_ | refine rn_false rfl ?_ | refine rn_exit rfl ?_ | refine pl_not rfl rfl ?_)
  refine pl_op rfl rfl (opTo_alloc _ rfl zero_words ?_)
  rw [World.size_alloc]
  have hk1 : Keep [] w ((w.alloc (.cells (ints (List.replicate 8 0)).toArray 32)).alloc (.cells (ints (List.replicate 8 0)).toArray 32)) := ((Keep.refl _ _).alloc _).alloc _
  have hr1 : Blk ((w.alloc (.cells (ints (List.replicate 8 0)).toArray 32)).alloc (.cells (ints (List.replicate 8 0)).toArray 32)) w.heap.size (ints (List.replicate 8 0)) 32 := (Blk.new _ _ _).alloc _
  have hx1 : Blk ((w.alloc (.cells (ints (List.replicate 8 0)).toArray 32)).alloc (.cells (ints (List.replicate 8 0)).toArray 32)) (w.heap.size + 1) (ints (List.replicate 8 0)) 32 := by
    have := Blk.new (w.alloc (.cells (ints (List.replicate 8 0)).toArray 32)) (ints (List.replicate 8 0)) 32
    rwa [World.size_alloc] at this
  generalize ((w.alloc (.cells (ints (List.replicate 8 0)).toArray 32)).alloc (.cells (ints (List.replicate 8 0)).toArray 32)) = w1 at *
  have hlt0 := h.lt
  repeat (first | refine pl_pure hT rfl rfl rfl ?_ | refine pl_nil ?_ | refine rn_seq ?_ | refine rn_plain ?_ | refine rn_block ?_ | refine rn_inBlock ?_ | refine rn_skip ?_ | refine rn_true rfl ?_ | refine rn_false rfl ?_ | refine rn_exit rfl ?_ | refine pl_not rfl rfl ?_)
  refine rn_ind (fun c σ w' => ∃ j, c = m - j ∧ j ≤ m ∧ σ = [(0, .pointer (some ⟨p, 0, none⟩)), (1, .int .i64 i), (2, .int .i64 (m : Nat)), (6, .pointer (some ⟨w.heap.size, 0, none⟩)), (7, .pointer (some ⟨w.heap.size + 1, 0, none⟩)), (8, .int .i64 (j : Nat))] ∧
      Keep [] w w' ∧ Blk w' w.heap.size (ints (List.replicate 8 0)) 32 ∧ Blk w' (w.heap.size + 1) (ints (readQ (Q.take j) i)) 32)
    (m - 0) _ ?_ ⟨0, rfl, Nat.zero_le _, rfl, hk1, hr1, by simpa [readQ, lastOf, wzero] using hx1⟩ ?_
  · exact ⟨rfl, rfl, rfl, rfl, rfl, rfl, trivial⟩
  rintro c σ w2 ih ⟨j, hc, hj, rfl, hk2, hr2, hx2⟩
  have h2 := h.keep hk2 (by simp)
  have hlj := readQ_len (Q := Q.take j) (fun q hq => h.wf q (List.mem_of_mem_take hq)) i
  repeat (first | refine pl_pure hT rfl rfl rfl ?_ | refine pl_nil ?_ | refine rn_seq ?_ | refine rn_plain ?_ | refine rn_block ?_ | refine rn_inBlock ?_ | refine rn_skip ?_ | refine rn_true rfl ?_ | refine rn_false rfl ?_ | refine rn_exit rfl ?_ | refine pl_not rfl rfl ?_)
  rcases Nat.lt_or_ge j m with hlt | hge
  · refine pl_val (.bool true) rfl rfl (val_int .i64 _ _ _ rfl rfl rfl (by simp [intOp]; omega) w2) ?_
    repeat (first | refine pl_pure hT rfl rfl rfl ?_ | refine pl_nil ?_ | refine rn_seq ?_ | refine rn_plain ?_ | refine rn_block ?_ | refine rn_inBlock ?_ | refine rn_skip ?_ | refine rn_true rfl ?_ | refine rn_false rfl ?_ | refine rn_exit rfl ?_ | refine pl_not rfl rfl ?_)
    obtain ⟨q, hq⟩ : ∃ q, Q[j]? = some q := ⟨Q[j], List.getElem?_eq_getElem (by omega)⟩
    have hq8 := (h.wf q (List.mem_of_getElem? hq)).2
    obtain ⟨ga, ca, ea, hca⟩ := h2.atA hq
    obtain ⟨gw, cw, ew, hcw⟩ := h2.atW hq
    refine pl_val _ rfl rfl (val_load1 hT rfl rfl rfl (h2.blk.cell rfl)) ?_
    repeat (first | refine pl_pure hT rfl rfl rfl ?_ | refine pl_nil ?_ | refine rn_seq ?_ | refine rn_plain ?_ | refine rn_block ?_ | refine rn_inBlock ?_ | refine rn_skip ?_ | refine rn_true rfl ?_ | refine rn_false rfl ?_ | refine rn_exit rfl ?_ | refine pl_not rfl rfl ?_)
    refine pl_val _ rfl rfl (val_index j hT rfl (by rw [ea]; rfl) rfl rfl rfl (by omega) w2) ?_
    refine pl_val (.int .i64 q.1) rfl rfl (val_load1 hT rfl rfl rfl hca) ?_
    repeat (first | refine pl_pure hT rfl rfl rfl ?_ | refine pl_nil ?_ | refine rn_seq ?_ | refine rn_plain ?_ | refine rn_block ?_ | refine rn_inBlock ?_ | refine rn_skip ?_ | refine rn_true rfl ?_ | refine rn_false rfl ?_ | refine rn_exit rfl ?_ | refine pl_not rfl rfl ?_)
    have hsn : Q.take (j + 1) = Q.take j ++ [q] := by
      rw [List.take_succ_eq_append_getElem (by omega), (List.getElem?_eq_some_iff.1 hq).2]
    by_cases e : (q.1 : Int) = i
    · refine pl_val (.bool true) rfl rfl (val_int .i64 _ _ _ rfl rfl rfl (by simp [intOp, e]) w2) ?_
      repeat (first | refine pl_pure hT rfl rfl rfl ?_ | refine pl_nil ?_ | refine rn_seq ?_ | refine rn_plain ?_ | refine rn_block ?_ | refine rn_inBlock ?_ | refine rn_skip ?_ | refine rn_true rfl ?_ | refine rn_false rfl ?_ | refine rn_exit rfl ?_ | refine pl_not rfl rfl ?_)
      refine pl_val _ rfl rfl (val_load1 hT rfl rfl rfl (h2.blk.cell rfl)) ?_
      repeat (first | refine pl_pure hT rfl rfl rfl ?_ | refine pl_nil ?_ | refine rn_seq ?_ | refine rn_plain ?_ | refine rn_block ?_ | refine rn_inBlock ?_ | refine rn_skip ?_ | refine rn_true rfl ?_ | refine rn_false rfl ?_ | refine rn_exit rfl ?_ | refine pl_not rfl rfl ?_)
      refine pl_val _ rfl rfl (val_index j hT rfl (by rw [ew]; rfl) rfl rfl rfl (by omega) w2) ?_
      have hl8 : (ints q.2).length = 8 := by rw [ints_length, hq8]
      refine pl_val (.agg (ints q.2).toArray) rfl rfl (val_load _ hT rfl rfl (by rw [hl8]; rfl) hcw) ?_
      refine pl_op rfl rfl (opTo_store _ rfl rfl rfl rfl (by rw [hl8]; decide +kernel) hx2 (by rw [hl8, ints_length, hlj]; decide) (ints_one _) ?_)
      rw [splice_all (by rw [hl8, ints_length, hlj])]
      have hk3 : Keep [] w (w2.setRow (w.heap.size + 1) (ints q.2).toArray) := hk2.setRow _ _ (.inr (by omega))
      have hx3 := hx2.set (ints q.2)
      have hr3 := hr2.other (ints q.2).toArray (show w.heap.size ≠ w.heap.size + 1 by omega)
      generalize (w2.setRow (w.heap.size + 1) (ints q.2).toArray) = w3 at *
      repeat (first | refine pl_pure hT rfl rfl rfl ?_ | refine pl_nil ?_ | refine rn_seq ?_ | refine rn_plain ?_ | refine rn_block ?_ | refine rn_inBlock ?_ | refine rn_skip ?_ | refine rn_true rfl ?_ | refine rn_false rfl ?_ | refine rn_exit rfl ?_ | refine pl_not rfl rfl ?_)
      refine pl_val (.int .i64 ((j + 1 : Nat) : Int)) rfl rfl (val_int .i64 j 1 _ rfl rfl rfl (by simp only [intOp]; rw [wrap_i64 (by omega) (by omega)]; rfl) w3) ?_
      repeat (first | refine pl_pure hT rfl rfl rfl ?_ | refine pl_nil ?_ | refine rn_seq ?_ | refine rn_plain ?_ | refine rn_block ?_ | refine rn_inBlock ?_ | refine rn_skip ?_ | refine rn_true rfl ?_ | refine rn_false rfl ?_ | refine rn_exit rfl ?_ | refine pl_not rfl rfl ?_)
      refine rn_sub ?_ (ih (m - (j + 1)) _ w3 (by omega) ⟨j + 1, rfl, hlt, rfl, hk3, hr3, by rw [hsn, readQ_snoc, if_pos e]; exact hx3⟩)
      exact ⟨rfl, rfl, rfl, rfl, rfl, rfl, trivial⟩
    · refine pl_val (.bool false) rfl rfl (val_int .i64 _ _ _ rfl rfl rfl (by simp [intOp, e]) w2) ?_
      repeat (first | refine pl_pure hT rfl rfl rfl ?_ | refine pl_nil ?_ | refine rn_seq ?_ | refine rn_plain ?_ | refine rn_block ?_ | refine rn_inBlock ?_ | refine rn_skip ?_ | refine rn_true rfl ?_ | refine rn_false rfl ?_ | refine rn_exit rfl ?_ | refine pl_not rfl rfl ?_)
      refine pl_val (.int .i64 ((j + 1 : Nat) : Int)) rfl rfl (val_int .i64 j 1 _ rfl rfl rfl (by simp only [intOp]; rw [wrap_i64 (by omega) (by omega)]; rfl) w2) ?_
      repeat (first | refine pl_pure hT rfl rfl rfl ?_ | refine pl_nil ?_ | refine rn_seq ?_ | refine rn_plain ?_ | refine rn_block ?_ | refine rn_inBlock ?_ | refine rn_skip ?_ | refine rn_true rfl ?_ | refine rn_false rfl ?_ | refine rn_exit rfl ?_ | refine pl_not rfl rfl ?_)
      refine rn_sub ?_ (ih (m - (j + 1)) _ w2 (by omega) ⟨j + 1, rfl, hlt, rfl, hk2, hr2, by rw [hsn, readQ_snoc, if_neg e]; exact hx2⟩)
      exact ⟨rfl, rfl, rfl, rfl, rfl, rfl, trivial⟩
  have hjm : j = m := by omega
  subst hjm
  refine pl_val (.bool false) rfl rfl (val_int .i64 _ _ _ rfl rfl rfl (by simp [intOp]) w2) ?_
  repeat (first | refine pl_pure hT rfl rfl rfl ?_ | refine pl_nil ?_ | refine rn_seq ?_ | refine rn_plain ?_ | refine rn_block ?_ | refine rn_inBlock ?_ | refine rn_skip ?_ | refine rn_true rfl ?_ | refine rn_false rfl ?_ | refine rn_exit rfl ?_ | refine pl_not rfl rfl ?_)
  have hl8 : (ints (readQ (Q.take j) i)).length = 8 := by rw [ints_length, hlj]
  refine pl_val (.agg (ints (readQ (Q.take j) i)).toArray) rfl rfl (val_load _ hT rfl rfl (by rw [hl8]; rfl) (hx2.range (by simp))) ?_
  refine pl_op rfl rfl (opTo_store _ rfl rfl rfl rfl (by rw [hl8]; decide +kernel) hr2 (by rw [hl8]; decide) (ints_one _) ?_)
  rw [splice_all (by rw [hl8]; rfl)]
  repeat (first | refine pl_pure hT rfl rfl rfl ?_ | refine pl_nil ?_ | refine rn_seq ?_ | refine rn_plain ?_ | refine rn_block ?_ | refine rn_inBlock ?_ | refine rn_skip ?_ | refine rn_true rfl ?_ | refine rn_false rfl ?_ | refine rn_exit rfl ?_ | refine pl_not rfl rfl ?_)
  exact rn_ret Try.func25 (.inr (.inr (.inl ⟨_, _, _, rfl, rfl, loadVar_agg hT (cs := ints (readQ (Q.take j) i)) (by rw [hl8]; rfl) ((hr2.set _).range (by simp))⟩))) ⟨rfl, hk2.setRow _ _ (.inr (by omega))⟩

theorem pRead_ret (h : PlateV B w p Q n av wv) (i : Int) (hQ : Q.length < 1000000) :
    Ret Try.prog 16 [.pointer (some ⟨p, 0, none⟩), .int .i64 i] w fun v w' => v = .agg (ints (readQ Q i)).toArray ∧ Keep [] w w' := by
  refine ret_of 13 Try.func16 rfl rfl (by simp) ?_
  repeat (first | refine pl_pure hT rfl rfl rfl ?_ | refine pl_nil ?_ | refine rn_seq ?_ | refine rn_plain ?_ | refine rn_block ?_ | refine rn_inBlock ?_ | refine rn_skip ?_ | refine rn_true rfl ?_ | refine rn_false rfl ?_ | refine rn_exit rfl ?_ | refine pl_not rfl rfl ?_)
  refine pl_op rfl rfl (opTo_alloc _ rfl zero_words ?_)
  have hk1 : Keep [] w (w.alloc (.cells (ints (List.replicate 8 0)).toArray 32)) := (Keep.refl _ _).alloc _
  have hr1 : Blk (w.alloc (.cells (ints (List.replicate 8 0)).toArray 32)) w.heap.size (ints (List.replicate 8 0)) 32 := Blk.new _ _ _
  have h1 := h.keep hk1 (by simp)
  generalize (w.alloc (.cells (ints (List.replicate 8 0)).toArray 32)) = w1 at *
  repeat (first | refine pl_pure hT rfl rfl rfl ?_ | refine pl_nil ?_ | refine rn_seq ?_ | refine rn_plain ?_ | refine rn_block ?_ | refine rn_inBlock ?_ | refine rn_skip ?_ | refine rn_true rfl ?_ | refine rn_false rfl ?_ | refine rn_exit rfl ?_ | refine pl_not rfl rfl ?_)
  refine pl_val av rfl rfl (val_load1 hT rfl rfl rfl (h1.blk.cell rfl)) ?_
  obtain ⟨aa, ac, ea⟩ := h.oa.form
  refine pl_val (.int .i64 Q.length) rfl rfl (val_pure hT (by subst ea; rfl) w1) ?_
  refine pl_op rfl rfl (opTo_call rfl rfl rfl rfl (by decide +kernel) ((pread_ret h1 i Q.length (Nat.le_refl _) hQ).mono ?_))
  rintro v w2 ⟨rfl, hk2⟩
  rw [List.take_length]
  have hl := readQ_len h.wf i
  have hl8 : (ints (readQ Q i)).length = 8 := by rw [ints_length, hl]
  have hr2 := hk2.blk hr1 (by simp)
  refine pl_op rfl rfl (opTo_store _ rfl rfl rfl rfl (by rw [hl8]; decide +kernel) hr2 (by rw [hl8]; decide) (ints_one _) ?_)
  rw [splice_all (by rw [hl8]; rfl)]
  repeat (first | refine pl_pure hT rfl rfl rfl ?_ | refine pl_nil ?_ | refine rn_seq ?_ | refine rn_plain ?_ | refine rn_block ?_ | refine rn_inBlock ?_ | refine rn_skip ?_ | refine rn_true rfl ?_ | refine rn_false rfl ?_ | refine rn_exit rfl ?_ | refine pl_not rfl rfl ?_)
  exact rn_ret Try.func16 (.inr (.inr (.inl ⟨_, _, _, rfl, rfl, loadVar_agg hT (cs := ints (readQ Q i)) (by rw [hl8]; rfl) ((hr2.set _).range (by simp))⟩))) ⟨rfl, (hk1.tr0 hk2).setRow _ _ (.inr (by omega))⟩

theorem pHolds_ret (h : PlateV B w p Q n av wv) (i : Int) (hQ : Q.length < 1000000) :
    Ret Try.prog 19 [.pointer (some ⟨p, 0, none⟩), .int .i64 i] w fun v w' => v = .agg (ints (readQ (Q.take n) i)).toArray ∧ Keep [] w w' := by
  refine ret_of 12 Try.func19 rfl rfl (by simp) ?_
  repeat (first | refine pl_pure hT rfl rfl rfl ?_ | refine pl_nil ?_ | refine rn_seq ?_ | refine rn_plain ?_ | refine rn_block ?_ | refine rn_inBlock ?_ | refine rn_skip ?_ | refine rn_true rfl ?_ | refine rn_false rfl ?_ | refine rn_exit rfl ?_ | refine pl_not rfl rfl ?_)
  refine pl_op rfl rfl (opTo_alloc _ rfl zero_words ?_)
  have hk1 : Keep [] w (w.alloc (.cells (ints (List.replicate 8 0)).toArray 32)) := (Keep.refl _ _).alloc _
  have hr1 : Blk (w.alloc (.cells (ints (List.replicate 8 0)).toArray 32)) w.heap.size (ints (List.replicate 8 0)) 32 := Blk.new _ _ _
  have h1 := h.keep hk1 (by simp)
  generalize (w.alloc (.cells (ints (List.replicate 8 0)).toArray 32)) = w1 at *
  repeat (first | refine pl_pure hT rfl rfl rfl ?_ | refine pl_nil ?_ | refine rn_seq ?_ | refine rn_plain ?_ | refine rn_block ?_ | refine rn_inBlock ?_ | refine rn_skip ?_ | refine rn_true rfl ?_ | refine rn_false rfl ?_ | refine rn_exit rfl ?_ | refine pl_not rfl rfl ?_)
  refine pl_val (.int .i64 (n : Nat)) rfl rfl (val_load1 hT rfl rfl rfl (h1.blk.cell rfl)) ?_
  refine pl_op rfl rfl (opTo_call rfl rfl rfl rfl (by decide +kernel) ((pread_ret h1 i n h.le hQ).mono ?_))
  rintro v w2 ⟨rfl, hk2⟩
  have hl := readQ_len (Q := Q.take n) (fun q hq => h.wf q (List.mem_of_mem_take hq)) i
  have hl8 : (ints (readQ (Q.take n) i)).length = 8 := by rw [ints_length, hl]
  have hr2 := hk2.blk hr1 (by simp)
  refine pl_op rfl rfl (opTo_store _ rfl rfl rfl rfl (by rw [hl8]; decide +kernel) hr2 (by rw [hl8]; decide) (ints_one _) ?_)
  rw [splice_all (by rw [hl8]; rfl)]
  repeat (first | refine pl_pure hT rfl rfl rfl ?_ | refine pl_nil ?_ | refine rn_seq ?_ | refine rn_plain ?_ | refine rn_block ?_ | refine rn_inBlock ?_ | refine rn_skip ?_ | refine rn_true rfl ?_ | refine rn_false rfl ?_ | refine rn_exit rfl ?_ | refine pl_not rfl rfl ?_)
  exact rn_ret Try.func19 (.inr (.inr (.inl ⟨_, _, _, rfl, rfl, loadVar_agg hT (cs := ints (readQ (Q.take n) i)) (by rw [hl8]; rfl) ((hr2.set _).range (by simp))⟩))) ⟨rfl, (hk1.tr0 hk2).setRow _ _ (.inr (by omega))⟩

theorem pFlush_ret (h : PlateV B w p Q n av wv) :
    Ret Try.prog 11 [.pointer (some ⟨p, 0, none⟩)] w fun v w' => v = .tuple #[] ∧ PlateV B w' p Q Q.length av wv ∧ Keep [p] w w' := by
  refine ret_of 10 Try.func11 rfl rfl (by simp) ?_
  repeat (first | refine pl_pure hT rfl rfl rfl ?_ | refine pl_nil ?_ | refine rn_seq ?_ | refine rn_plain ?_ | refine rn_block ?_ | refine rn_inBlock ?_ | refine rn_skip ?_ | refine rn_true rfl ?_ | refine rn_false rfl ?_ | refine rn_exit rfl ?_ | refine pl_not rfl rfl ?_)
  refine pl_val av rfl rfl (val_load1 hT rfl rfl rfl (h.blk.cell rfl)) ?_
  obtain ⟨aa, ac, ea⟩ := h.oa.form
  refine pl_val (.int .i64 Q.length) rfl rfl (val_pure hT (by subst ea; rfl) w) ?_
  repeat (first | refine pl_pure hT rfl rfl rfl ?_ | refine pl_nil ?_ | refine rn_seq ?_ | refine rn_plain ?_ | refine rn_block ?_ | refine rn_inBlock ?_ | refine rn_skip ?_ | refine rn_true rfl ?_ | refine rn_false rfl ?_ | refine rn_exit rfl ?_ | refine pl_not rfl rfl ?_)
  refine pl_op rfl rfl (opTo_store _ rfl rfl rfl rfl (by kernel_rfl) h.blk (by simp) (by simp; rfl) ?_)
  have hsp : splice [av, wv, .int .i64 n] (0 + 2) [.int .i64 Q.length] = [av, wv, .int .i64 Q.length] := rfl
  rw [hsp]
  have hk : Keep [p] w (w.setRow p [av, wv, .int .i64 (Q.length : Nat)].toArray) := (Keep.refl _ _).setRow _ _ (.inl (by simp))
  repeat (first | refine pl_pure hT rfl rfl rfl ?_ | refine pl_nil ?_ | refine rn_seq ?_ | refine rn_plain ?_ | refine rn_block ?_ | refine rn_inBlock ?_ | refine rn_skip ?_ | refine rn_true rfl ?_ | refine rn_false rfl ?_ | refine rn_exit rfl ?_ | refine pl_not rfl rfl ?_)
  refine rn_end Try.func11 (.inr (.inl ⟨rfl, rfl⟩)) ⟨rfl, ⟨h.blk.set _, h.oa.keep hk fun k e => ?_, h.ow.keep hk fun k e => ?_, h.d1, h.d2, h.d3, Nat.le_refl _, h.base, h.wf⟩, hk⟩
  · simp only [List.mem_singleton]; intro e2; exact h.d1 (e2 ▸ e)
  · simp only [List.mem_singleton]; intro e2; exact h.d2 (e2 ▸ e)
end
end E
end Go.Proofs.Ytoegglcdpdohdaa
