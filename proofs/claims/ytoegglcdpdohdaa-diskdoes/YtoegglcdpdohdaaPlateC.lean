/- The contract of Plate.Crash. -/
import Derived.Test.YtoegglcdpdohdaaPlateB
namespace Go.Proofs.Ytoegglcdpdohdaa
namespace E
open Go.Proofs

/-- Of the first j writes those that stay. -/
def kept (stays : Nat → Bool) (L : List Wr) (j : Nat) : List Wr := (((L.take j).zipIdx).filter fun q => stays q.2).map (·.1)

theorem kept_zero (stays : Nat → Bool) (L : List Wr) : kept stays L 0 = [] := by simp [kept]
theorem kept_succ (stays : Nat → Bool) {L : List Wr} {j : Nat} {p : Wr} (hp : L[j]? = some p) : kept stays L (j + 1) = if stays j then kept stays L j ++ [p] else kept stays L j := by
  have hlt : j < L.length := (List.getElem?_eq_some_iff.1 hp).1
  have hj : L[j] = p := (List.getElem?_eq_some_iff.1 hp).2
  unfold kept
  rw [List.take_succ_eq_append_getElem hlt, List.zipIdx_append, List.filter_append, List.map_append, hj]
  cases h : stays j <;> simp [Nat.min_eq_left (Nat.le_of_lt hlt), h]
theorem kept_mem {stays : Nat → Bool} {L : List Wr} : ∀ {j : Nat} {p : Wr}, j ≤ L.length → p ∈ kept stays L j → p ∈ L
  | 0, p, _, h => by simp [kept_zero] at h
  | j + 1, p, hl, h => by
    have hp : L[j]? = some L[j] := List.getElem?_eq_getElem hl
    rw [kept_succ stays hp] at h
    split at h
    · rcases List.mem_append.1 h with h | h
      · exact kept_mem (by omega) h
      · simp only [List.mem_singleton] at h; subst h; exact List.getElem_mem hl
    · exact kept_mem (by omega) h
theorem kept_len {stays : Nat → Bool} {L : List Wr} : ∀ {j : Nat}, j ≤ L.length → (kept stays L j).length ≤ j
  | 0, _ => by simp [kept_zero]
  | j + 1, hl => by
    have hp : L[j]? = some L[j] := List.getElem?_eq_getElem hl
    rw [kept_succ stays hp]
    have := kept_len (stays := stays) (L := L) (j := j) (by omega)
    split
    · simp; omega
    · omega

theorem own_slice (a : Option Addr) (n c m d : Nat) : (Value.slice a n c).ownBlock = (Value.slice a m d).ownBlock := by cases a <;> rfl

/-- A slice to which Crash appends: it has no room, or lies in new memory. -/
def Safe (w : World) (v : Value) (n : Nat) : Prop := capOf v = n ∨ ∀ k, v.ownBlock = some k → w.heap.size ≤ k

section
variable {B : Nat} {w w' : World} {p : Nat} {Q : List Wr} {n : Nat} {av wv : Value}

theorem pCrash_ret (h : PlateV B w p Q n av wv) (mask : Int) (hQ : Q.length < 1000000) :
    Ret Try.prog 13 [.pointer (some ⟨p, 0, none⟩), .int .u64 mask] w fun v w' => v = .tuple #[] ∧
      ∃ av' wv', PlateV B w' p (Q.take n ++ kept (maskB mask) (Q.drop n) (Q.length - n)) (n + (kept (maskB mask) (Q.drop n) (Q.length - n)).length) av' wv' ∧ Keep [p] w w' ∧ ∀ k ∈ fpP p av' wv', k ∈ fpP p av wv ∨ w.heap.size ≤ k := by
  refine ret_of 93 Try.func13 rfl rfl (by simp) ?_
  obtain ⟨aa, ac, ea⟩ := h.oa.form
  obtain ⟨wa, wc, ew⟩ := h.ow.form
  have hle := h.le
  have hca : n ≤ ac := by have := h.oa.cap_le; rw [ea] at this; exact Nat.le_trans hle this
  have hcw : n ≤ wc := by have := h.ow.cap_le; rw [ew] at this; exact Nat.le_trans hle this
  have hBs : B ≤ w.heap.size := by have := h.base; have := h.blk.lt; omega
  repeat (first | refine pl_pure hT rfl rfl rfl ?_ | refine pl_nil ?_ | refine rn_seq ?_ | refine rn_plain ?_ | refine rn_block ?_ | refine rn_inBlock ?_ | refine rn_skip ?_ | refine rn_true rfl ?_ | refine rn_false rfl ?_ | refine rn_exit rfl ?_ | refine pl_not rfl rfl ?_)
  have hS0 : Keep [] w w.drew := (Keep.refl _ _).drew
  have hbl : ∀ w', Keep [] w w' → Blk w' p [av, wv, .int .i64 (n : Nat)] 30 := fun w' hk => hk.blk h.blk (by simp)
  refine rn_draw (fun w' => Keep [] w w') [] hMix ?_
  refine dr_pure 0 hT rfl (by decide +kernel) rfl rfl rfl ?_
  refine dr_pure 1 hT rfl (by decide +kernel) rfl rfl rfl ?_
  refine dr_pure 2 hT rfl (by decide +kernel) rfl rfl rfl ?_
  refine dr_val 3 (.slice aa Q.length ac) rfl (by decide +kernel) rfl rfl (fun w' hk => val_load1 hT rfl rfl rfl ((hbl w' hk).cell (by rw [ea]; rfl))) hS0 ?_
  refine dr_pure 4 hT rfl (by decide +kernel) rfl rfl rfl ?_
  refine dr_pure 5 hT rfl (by decide +kernel) rfl rfl rfl ?_
  refine dr_pure 6 hT rfl (by decide +kernel) rfl rfl rfl ?_
  refine dr_val 7 (.int .i64 (n : Nat)) rfl (by decide +kernel) rfl rfl (fun w' hk => val_load1 hT rfl rfl rfl ((hbl w' hk).cell rfl)) hS0 ?_
  refine dr_pure 8 hT rfl (by decide +kernel) rfl rfl rfl ?_
  refine dr_pure 9 hT rfl (by decide +kernel) rfl rfl rfl ?_
  refine dr_pure 10 hT rfl (by decide +kernel) rfl rfl rfl ?_
  refine dr_val 11 (.int .i64 (n : Nat)) rfl (by decide +kernel) rfl rfl (fun w' hk => val_load1 hT rfl rfl rfl ((hbl w' hk).cell rfl)) hS0 ?_
  refine dr_any 12 (.slice aa n n) rfl (by decide +kernel) rfl rfl (fun w' => val_slice3 n n hT rfl rfl rfl rfl rfl rfl rfl hca (Nat.le_refl _) w') ?_
  refine dr_pure 13 hT rfl (by decide +kernel) rfl rfl rfl ?_
  refine dr_pure 14 hT rfl (by decide +kernel) rfl rfl rfl ?_
  refine dr_pure 15 hT rfl (by decide +kernel) rfl rfl rfl ?_
  refine dr_val 16 (.slice wa Q.length wc) rfl (by decide +kernel) rfl rfl (fun w' hk => val_load1 hT rfl rfl rfl ((hbl w' hk).cell (by rw [ew]; rfl))) hS0 ?_
  refine dr_pure 17 hT rfl (by decide +kernel) rfl rfl rfl ?_
  refine dr_pure 18 hT rfl (by decide +kernel) rfl rfl rfl ?_
  refine dr_pure 19 hT rfl (by decide +kernel) rfl rfl rfl ?_
  refine dr_val 20 (.int .i64 (n : Nat)) rfl (by decide +kernel) rfl rfl (fun w' hk => val_load1 hT rfl rfl rfl ((hbl w' hk).cell rfl)) hS0 ?_
  refine dr_pure 21 hT rfl (by decide +kernel) rfl rfl rfl ?_
  refine dr_pure 22 hT rfl (by decide +kernel) rfl rfl rfl ?_
  refine dr_pure 23 hT rfl (by decide +kernel) rfl rfl rfl ?_
  refine dr_val 24 (.int .i64 (n : Nat)) rfl (by decide +kernel) rfl rfl (fun w' hk => val_load1 hT rfl rfl rfl ((hbl w' hk).cell rfl)) hS0 ?_
  refine dr_any 25 (.slice wa n n) rfl (by decide +kernel) rfl rfl (fun w' => val_slice3 n n hT rfl rfl rfl rfl rfl rfl rfl hcw (Nat.le_refl _) w') ?_
  refine dr_pure 26 hT rfl (by decide +kernel) rfl rfl rfl ?_
  refine dr_pure 27 hT rfl (by decide +kernel) rfl rfl rfl ?_
  refine dr_done (by decide +kernel) ?_
  generalize w.drew = w1 at *
  repeat (first | refine pl_pure hT rfl rfl rfl ?_ | refine pl_nil ?_ | refine rn_seq ?_ | refine rn_plain ?_ | refine rn_block ?_ | refine rn_inBlock ?_ | refine rn_skip ?_ | refine rn_true rfl ?_ | refine rn_false rfl ?_ | refine rn_exit rfl ?_ | refine pl_not rfl rfl ?_)
  refine pl_val (.int .i64 (n : Nat)) rfl rfl (val_load1 hT rfl rfl rfl ((hbl w1 hS0).cell rfl)) ?_
  repeat (first | refine pl_pure hT rfl rfl rfl ?_ | refine pl_nil ?_ | refine rn_seq ?_ | refine rn_plain ?_ | refine rn_block ?_ | refine rn_inBlock ?_ | refine rn_skip ?_ | refine rn_true rfl ?_ | refine rn_false rfl ?_ | refine rn_exit rfl ?_ | refine pl_not rfl rfl ?_)
  have hdl : (Q.drop n).length = Q.length - n := by simp
  have hA0 : Own w1 B 3 1 (.slice aa n n) n (acells (Q.take n)) := by
    have := (h.oa.keep hS0 (by simp)).cut hle ea
    have e : (acells Q).take (n * 1) = acells (Q.take n) := by
      have e1 : acells Q = acells (Q.take n) ++ acells (Q.drop n) := by rw [acells, acells, acells, ← List.flatMap_append, List.take_append_drop]
      have e2 : (acells (Q.take n)).length = n * 1 := by
        rw [acells, flat_length (k := 1) (fun _ _ => rfl), List.length_take, Nat.min_eq_left hle]
      rw [e1, ← e2, List.take_left]
    rwa [e] at this
  have hW0 : Own w1 B 32 8 (.slice wa n n) n (qcells (Q.take n)) := by
    have := (h.ow.keep hS0 (by simp)).cut hle ew
    have e : (qcells Q).take (n * 8) = qcells (Q.take n) := by
      have e1 : qcells Q = qcells (Q.take n) ++ qcells (Q.drop n) := by rw [qcells, qcells, qcells, ← List.flatMap_append, List.take_append_drop]
      have e2 : (qcells (Q.take n)).length = n * 8 := by
        rw [qcells, flat_length (k := 8) (fun q hq => by rw [ints_length, (h.wf q (List.mem_of_mem_take hq)).2]), List.length_take, Nat.min_eq_left hle]
      rw [e1, ← e2, List.take_left]
    rwa [e] at this
  have hd0 : ∀ k, (Value.slice aa n n).ownBlock = some k → (Value.slice wa n n).ownBlock ≠ some k := fun k e e2 => by
    refine h.d3 k ?_ ?_
    · rw [ea]; exact (own_slice aa _ _ n n).trans e
    · rw [ew]; exact (own_slice wa _ _ n n).trans e2
  have hp0 : ∀ k, (Value.slice aa n n).ownBlock = some k → k ∈ fpP p av wv := fun k e => mem_fpP.2 (.inr (.inl (by rw [ea]; exact (own_slice aa _ _ n n).trans e)))
  have hp1 : ∀ k, (Value.slice wa n n).ownBlock = some k → k ∈ fpP p av wv := fun k e => mem_fpP.2 (.inr (.inr (by rw [ew]; exact (own_slice wa _ _ n n).trans e)))
  have hpn0 : ∀ k, (Value.slice aa n n).ownBlock = some k → k ≠ p := fun k e e2 => h.d1 (by rw [ea, ← e2]; exact (own_slice aa _ _ n n).trans e)
  have hpn1 : ∀ k, (Value.slice wa n n).ownBlock = some k → k ≠ p := fun k e e2 => h.d2 (by rw [ew, ← e2]; exact (own_slice wa _ _ n n).trans e)
  refine rn_ind (fun m σ w' => ∃ j v4 v5, m = (Q.length - n) - j ∧ j ≤ Q.length - n ∧ σ = [(0, .pointer (some ⟨p, 0, none⟩)), (1, .int .u64 mask), (4, v4), (5, v5), (6, .int .i64 ((n + j : Nat) : Int))] ∧ Keep [] w w' ∧
      Own w' B 3 1 v4 (n + (kept (maskB mask) (Q.drop n) j).length) (acells (Q.take n ++ kept (maskB mask) (Q.drop n) j)) ∧ Own w' B 32 8 v5 (n + (kept (maskB mask) (Q.drop n) j).length) (qcells (Q.take n ++ kept (maskB mask) (Q.drop n) j)) ∧
      Safe w v4 (n + (kept (maskB mask) (Q.drop n) j).length) ∧ Safe w v5 (n + (kept (maskB mask) (Q.drop n) j).length) ∧ (∀ k, v4.ownBlock = some k → v5.ownBlock ≠ some k) ∧
      (∀ k, v4.ownBlock = some k → k ≠ p ∧ (k ∈ fpP p av wv ∨ w.heap.size ≤ k)) ∧ (∀ k, v5.ownBlock = some k → k ≠ p ∧ (k ∈ fpP p av wv ∨ w.heap.size ≤ k)))
    ((Q.length - n) - 0) _ ?_ ⟨0, .slice aa n n, .slice wa n n, rfl, Nat.zero_le _, rfl, hS0, by simpa [kept_zero] using hA0, by simpa [kept_zero] using hW0, .inl (by simp [capOf, kept_zero]), .inl (by simp [capOf, kept_zero]), hd0, fun k e => ⟨hpn0 k e, .inl (hp0 k e)⟩, fun k e => ⟨hpn1 k e, .inl (hp1 k e)⟩⟩ ?_
  · exact ⟨rfl, rfl, rfl, rfl, rfl, trivial⟩
  rintro m σ w2 ih ⟨j, v4, v5, hm, hj, rfl, hk2, ho4, ho5, hs4, hs5, h45, hf4, hf5⟩
  have h2 := h.keep hk2 (by simp)
  have hkl := kept_len (stays := maskB mask) (L := Q.drop n) (j := j) (by omega)
  repeat (first | refine pl_pure hT rfl rfl rfl ?_ | refine pl_nil ?_ | refine rn_seq ?_ | refine rn_plain ?_ | refine rn_block ?_ | refine rn_inBlock ?_ | refine rn_skip ?_ | refine rn_true rfl ?_ | refine rn_false rfl ?_ | refine rn_exit rfl ?_ | refine pl_not rfl rfl ?_)
  refine pl_val (.slice aa Q.length ac) rfl rfl (val_load1 hT rfl rfl rfl (h2.blk.cell (by rw [ea]; rfl))) ?_
  repeat (first | refine pl_pure hT rfl rfl rfl ?_ | refine pl_nil ?_ | refine rn_seq ?_ | refine rn_plain ?_ | refine rn_block ?_ | refine rn_inBlock ?_ | refine rn_skip ?_ | refine rn_true rfl ?_ | refine rn_false rfl ?_ | refine rn_exit rfl ?_ | refine pl_not rfl rfl ?_)
  rcases Nat.lt_or_ge j (Q.length - n) with hlt | hge
  · refine pl_val (.bool true) rfl rfl (val_int .i64 _ _ _ rfl rfl rfl (by simp [intOp]; omega) w2) ?_
    repeat (first | refine pl_pure hT rfl rfl rfl ?_ | refine pl_nil ?_ | refine rn_seq ?_ | refine rn_plain ?_ | refine rn_block ?_ | refine rn_inBlock ?_ | refine rn_skip ?_ | refine rn_true rfl ?_ | refine rn_false rfl ?_ | refine rn_exit rfl ?_ | refine pl_not rfl rfl ?_)
    refine pl_val (.int .i64 (n : Nat)) rfl rfl (val_load1 hT rfl rfl rfl (h2.blk.cell rfl)) ?_
    refine pl_val (.int .i64 (j : Nat)) rfl rfl (val_int .i64 _ _ _ rfl rfl rfl (by simp only [intOp]; rw [wrap_i64 (by omega) (by omega)]; congr 2; omega) w2) ?_
    refine pl_val (.int .u64 (j : Nat)) rfl rfl (val_conv .i64 .u64 (j : Nat) _ rfl rfl (by decide +kernel) (wrap_u64 (by omega) (by omega)) w2) ?_
    refine pl_val (.int .u64 ((j % 64 : Nat) : Int)) rfl rfl (val_int .u64 j 64 _ rfl rfl rfl (by simp [intOp]; rfl) w2) ?_
    repeat (first | refine pl_pure hT rfl rfl rfl ?_ | refine pl_nil ?_ | refine rn_seq ?_ | refine rn_plain ?_ | refine rn_block ?_ | refine rn_inBlock ?_ | refine rn_skip ?_ | refine rn_true rfl ?_ | refine rn_false rfl ?_ | refine rn_exit rfl ?_ | refine pl_not rfl rfl ?_)
    refine pl_val _ rfl rfl (val_shr .u64 .u64 mask ((j % 64 : Nat) : Int) (mask.fdiv (2 ^ (j % 64))) rfl rfl rfl (by omega) (by
      rw [Int.toNat_natCast, show IntKind.u64.bits = 64 from rfl, Nat.min_eq_left (by omega)]) w2) ?_
    refine pl_val _ rfl rfl (val_int .u64 _ 1 _ rfl rfl rfl rfl w2) ?_
    refine pl_val (.bool (maskB mask j)) rfl rfl (val_int .u64 _ 1 _ rfl rfl rfl rfl w2) ?_
    obtain ⟨q, hq⟩ : ∃ q, (Q.drop n)[j]? = some q := ⟨(Q.drop n)[j]'(by rw [hdl]; exact hlt), List.getElem?_eq_getElem _⟩
    have hq' : Q[n + j]? = some q := by simpa using hq
    have hks := kept_succ (maskB mask) hq
    cases hst : maskB mask j with
    | false =>
      rw [hst] at hks
      simp only [Bool.false_eq_true, if_false] at hks
      repeat (first | refine pl_pure hT rfl rfl rfl ?_ | refine pl_nil ?_ | refine rn_seq ?_ | refine rn_plain ?_ | refine rn_block ?_ | refine rn_inBlock ?_ | refine rn_skip ?_ | refine rn_true rfl ?_ | refine rn_false rfl ?_ | refine rn_exit rfl ?_ | refine pl_not rfl rfl ?_)
      refine pl_val (.int .i64 ((n + (j + 1) : Nat) : Int)) rfl rfl (val_int .i64 _ 1 _ rfl rfl rfl (by simp only [intOp]; rw [wrap_i64 (by omega) (by omega)]; rfl) w2) ?_
      repeat (first | refine pl_pure hT rfl rfl rfl ?_ | refine pl_nil ?_ | refine rn_seq ?_ | refine rn_plain ?_ | refine rn_block ?_ | refine rn_inBlock ?_ | refine rn_skip ?_ | refine rn_true rfl ?_ | refine rn_false rfl ?_ | refine rn_exit rfl ?_ | refine pl_not rfl rfl ?_)
      refine rn_sub ?_ (ih ((Q.length - n) - (j + 1)) _ w2 (by omega) ⟨j + 1, v4, v5, rfl, hlt, rfl, hk2, by rw [hks]; exact ho4, by rw [hks]; exact ho5, by rw [hks]; exact hs4, by rw [hks]; exact hs5, h45, hf4, hf5⟩)
      exact ⟨rfl, rfl, rfl, rfl, rfl, trivial⟩
    | true =>
      rw [hst] at hks
      simp only [if_true] at hks
      repeat (first | refine pl_pure hT rfl rfl rfl ?_ | refine pl_nil ?_ | refine rn_seq ?_ | refine rn_plain ?_ | refine rn_block ?_ | refine rn_inBlock ?_ | refine rn_skip ?_ | refine rn_true rfl ?_ | refine rn_false rfl ?_ | refine rn_exit rfl ?_ | refine pl_not rfl rfl ?_)
      have hq8 := (h.wf q (List.mem_of_getElem? hq')).2
      have hl8 : (ints q.2).length = 8 := by rw [ints_length, hq8]
      have hjn : n + j < Q.length := by omega
      generalize kept (maskB mask) (Q.drop n) j = Kp at *
      have hsz2 := hk2.size
      have hS2 : Keep [] w w2.drew := hk2.drew
      have hbl2 : ∀ w', Keep [] w w' → Blk w' p [av, wv, .int .i64 (n : Nat)] 30 := hbl
      obtain ⟨ga, hga, hca'⟩ : ∃ ga, aa = some ⟨ga, 0, none⟩ ∧ ∀ w', Keep [] w w' → w'.cell? ⟨ga, 0 + (n + j) * 1, none⟩ = some (.int .i64 q.1) := by
        obtain ⟨g, c, e, _⟩ := h.atA hq'
        rw [ea] at e
        injection e with e1 e2 e3
        refine ⟨g, e1, fun w' hk => ?_⟩
        obtain ⟨g', c', e', hc'⟩ := (h.keep hk (by simp)).atA hq'
        rw [ea] at e'
        injection e' with e1' e2' e3'
        rw [e1] at e1'
        injection e1' with e1'
        injection e1' with e1'
        rw [e1']; exact hc'
      obtain ⟨gw, hgw, hcw'⟩ : ∃ gw, wa = some ⟨gw, 0, none⟩ ∧ ∀ w', Keep [] w w' → w'.rangeAt gw (0 + (n + j) * 8) (ints q.2) := by
        obtain ⟨g, c, e, _⟩ := h.atW hq'
        rw [ew] at e
        injection e with e1 e2 e3
        refine ⟨g, e1, fun w' hk => ?_⟩
        obtain ⟨g', c', e', hc'⟩ := (h.keep hk (by simp)).atW hq'
        rw [ew] at e'
        injection e' with e1' e2' e3'
        rw [e1] at e1'
        injection e1' with e1'
        injection e1' with e1'
        rw [e1']; exact hc'
      have h4b : ∀ k, v4.ownBlock = some k → B ≤ k ∧ k < w2.heap.size := ho4.lt
      have h5b : ∀ k, v5.ownBlock = some k → B ≤ k ∧ k < w2.heap.size := ho5.lt
      refine rn_draw (fun w' => Keep [] w w') [] hMix ?_
      refine dr_pure 0 hT rfl (by decide +kernel) rfl rfl rfl ?_
      refine dr_pure 1 hT rfl (by decide +kernel) rfl rfl rfl ?_
      refine dr_pure 2 hT rfl (by decide +kernel) rfl rfl rfl ?_
      refine dr_pure 3 hT rfl (by decide +kernel) rfl rfl rfl ?_
      refine dr_val 4 (.slice aa Q.length ac) rfl (by decide +kernel) rfl rfl (fun w' hk => val_load1 hT rfl rfl rfl ((hbl w' hk).cell (by rw [ea]; rfl))) hS2 ?_
      refine dr_pure 5 hT rfl (by decide +kernel) rfl rfl rfl ?_
      refine dr_any 6 _ rfl (by decide +kernel) rfl rfl (fun w' => val_index (n + j) hT rfl (by rw [hga]; rfl) rfl rfl rfl hjn w') ?_
      refine dr_val 7 (.int .i64 q.1) rfl (by decide +kernel) rfl rfl (fun w' hk => val_load1 hT rfl rfl rfl (hca' w' hk)) hS2 ?_
      refine dr_pure 10 hT rfl (by decide +kernel) rfl rfl rfl ?_
      refine dr_pure 11 hT rfl (by decide +kernel) rfl rfl rfl ?_
      refine dr_pure 12 hT rfl (by decide +kernel) rfl rfl rfl ?_
      refine dr_pure 13 hT rfl (by decide +kernel) rfl rfl rfl ?_
      refine dr_val 14 (.slice wa Q.length wc) rfl (by decide +kernel) rfl rfl (fun w' hk => val_load1 hT rfl rfl rfl ((hbl w' hk).cell (by rw [ew]; rfl))) hS2 ?_
      refine dr_pure 15 hT rfl (by decide +kernel) rfl rfl rfl ?_
      refine dr_any 16 _ rfl (by decide +kernel) rfl rfl (fun w' => val_index (n + j) hT rfl (by rw [hgw]; rfl) rfl rfl rfl hjn w') ?_
      refine dr_val 17 (.agg (ints q.2).toArray) rfl (by decide +kernel) rfl rfl (fun w' hk => val_load _ hT rfl rfl (by rw [hl8]; rfl) (hcw' w' hk)) hS2 ?_
      -- behind both appends
      refine dr_with 2 1048575 (fun σ w3 => ∃ g1 c1 g2 c2, σ = [(0, .pointer (some ⟨p, 0, none⟩)), (1, .int .u64 mask), (6, .int .i64 ((n + j : Nat) : Int)), (69, .slice (some ⟨g1, 0, none⟩) (n + Kp.length + 1) c1), (79, .slice (some ⟨g2, 0, none⟩) (n + Kp.length + 1) c2)] ∧
          Keep [] w w3 ∧ Own w3 B 3 1 (.slice (some ⟨g1, 0, none⟩) (n + Kp.length + 1) c1) (n + Kp.length + 1) (acells (Q.take n ++ Kp) ++ [.int .i64 q.1]) ∧ Own w3 B 32 8 (.slice (some ⟨g2, 0, none⟩) (n + Kp.length + 1) c2) (n + Kp.length + 1) (qcells (Q.take n ++ Kp) ++ ints q.2) ∧
          w.heap.size ≤ g1 ∧ w.heap.size ≤ g2 ∧ g1 ≠ g2) ?_ ?_
      · rintro σ w3 ⟨g1, c1, g2, c2, rfl, hk3, ho1, ho2, hg1, hg2, hne⟩
        refine dr_pure 20 hT rfl (by decide +kernel) rfl rfl rfl ?_
        refine dr_pure 21 hT rfl (by decide +kernel) rfl rfl rfl ?_
        refine dr_done (by decide +kernel) ?_
        repeat (first | refine pl_pure hT rfl rfl rfl ?_ | refine pl_nil ?_ | refine rn_seq ?_ | refine rn_plain ?_ | refine rn_block ?_ | refine rn_inBlock ?_ | refine rn_skip ?_ | refine rn_true rfl ?_ | refine rn_false rfl ?_ | refine rn_exit rfl ?_ | refine pl_not rfl rfl ?_)
        refine pl_val (.int .i64 ((n + (j + 1) : Nat) : Int)) rfl rfl (val_int .i64 _ 1 _ rfl rfl rfl (by simp only [intOp]; rw [wrap_i64 (by omega) (by omega)]; rfl) w3) ?_
        repeat (first | refine pl_pure hT rfl rfl rfl ?_ | refine pl_nil ?_ | refine rn_seq ?_ | refine rn_plain ?_ | refine rn_block ?_ | refine rn_inBlock ?_ | refine rn_skip ?_ | refine rn_true rfl ?_ | refine rn_false rfl ?_ | refine rn_exit rfl ?_ | refine pl_not rfl rfl ?_)
        have hps : p < w.heap.size := h.blk.lt
        refine rn_sub ?_ (ih ((Q.length - n) - (j + 1)) _ w3 (by omega) ⟨j + 1, .slice (some ⟨g1, 0, none⟩) (n + Kp.length + 1) c1, .slice (some ⟨g2, 0, none⟩) (n + Kp.length + 1) c2, rfl, hlt, rfl, hk3, ?_, ?_, ?_, ?_, ?_, ?_, ?_⟩)
        · exact ⟨rfl, rfl, rfl, rfl, rfl, trivial⟩
        · rw [hks, List.length_append, List.length_singleton, ← List.append_assoc, acells_snoc]
          exact ho1
        · rw [hks, List.length_append, List.length_singleton, ← List.append_assoc, qcells_snoc]
          exact ho2
        · exact .inr fun k e => by simp [Value.ownBlock] at e; omega
        · exact .inr fun k e => by simp [Value.ownBlock] at e; omega
        · intro k e
          simp [Value.ownBlock] at e ⊢
          omega
        · intro k e
          simp [Value.ownBlock] at e
          exact ⟨by omega, .inr (by omega)⟩
        · intro k e
          simp [Value.ownBlock] at e
          exact ⟨by omega, .inr (by omega)⟩
      intro hcont
      -- ahead of the second append
      refine dr_with 3 524287 (fun σ w3 => ∃ g1 c1 b2, σ = [(0, .pointer (some ⟨p, 0, none⟩)), (1, .int .u64 mask), (6, .int .i64 ((n + j : Nat) : Int)), (69, .slice (some ⟨g1, 0, none⟩) (n + Kp.length + 1) c1), (70, v5), (78, .slice (some ⟨b2, 0, none⟩) 1 1)] ∧
          Keep [] w w3 ∧ w2.heap.size ≤ w3.heap.size ∧ Own w3 B 3 1 (.slice (some ⟨g1, 0, none⟩) (n + Kp.length + 1) c1) (n + Kp.length + 1) (acells (Q.take n ++ Kp) ++ [.int .i64 q.1]) ∧ Own w3 B 32 8 v5 (n + Kp.length) (qcells (Q.take n ++ Kp)) ∧ Blk w3 b2 (ints q.2) 32 ∧
          w.heap.size ≤ g1 ∧ v5.ownBlock ≠ some g1) ?_ ?_
      · rintro σ w3 ⟨g1, c1, b2, rfl, hk3, hsz3, ho1, ho2, hb2, hg1, hn1⟩
        have hg1lt := (ho1.lt g1 rfl).2
        refine dr_op 19 rfl (by decide +kernel) rfl rfl (opTo_app B 32 8 64 (qcells (Q.take n ++ Kp)) (ints q.2) rfl rfl rfl (by decide +kernel) ho2 (hb2.range (by simp)) (by rw [hl8]) (ints_one _) (by decide) (by unfold maxLen; omega) (by omega) (by have := hk3.size; omega) ?_)
        intro g2 c2 w4 ho4' hat
        have hg2 : w.heap.size ≤ g2 := by
          rcases hat with ⟨e, hc, _⟩ | ⟨e, _, _⟩
          · rcases hs5 with hs | hs
            · omega
            · exact hs g2 e
          · omega
        have hk4 : Keep [] w w4 := by
          rcases hat with ⟨_, _, hk⟩ | ⟨_, hk, _⟩
          · exact hk3.trans hk fun k hk => .inr (by simp only [List.mem_singleton] at hk; omega)
          · exact hk3.tr0 hk
        have hne : g1 ≠ g2 := fun e => by
          rcases hat with ⟨e1, _, _⟩ | ⟨e1, _, _⟩
          · exact hn1 (e ▸ e1)
          · omega
        have ho1' : Own w4 B 3 1 (.slice (some ⟨g1, 0, none⟩) (n + Kp.length + 1) c1) (n + Kp.length + 1) (acells (Q.take n ++ Kp) ++ [.int .i64 q.1]) := by
          rcases hat with ⟨_, _, hk⟩ | ⟨_, hk, _⟩
          · exact ho1.keep hk fun k e => by simp [Value.ownBlock] at e; simp; omega
          · exact ho1.keep hk (by simp)
        refine ⟨fun _ => hk4, ?_⟩
        refine dr_sub ?_ (hcont _ w4 ⟨g1, c1, g2, c2, rfl, hk4, ho1', ho4', hg1, hg2, hne⟩)
        exact ⟨rfl, rfl, rfl, rfl, rfl, trivial⟩
      intro hcont2
      clear hcont
      have hA1 : ∀ (w3 : World) (b1 : Nat) (n' : Nat) (σ : Env) (o : Oper) (K : Value → World → Prop), Keep [] w2 w3 → Blk w3 b1 [.int .i64 q.1] 3 →
          o.op = .call { callee := .builtin .append, args := #[.tmp 60, .tmp 68], argTypes := #[27, 27] } → ev σ (.tmp 60) = some v4 → ev σ (.tmp 68) = some (.slice (some ⟨b1, 0, none⟩) 1 1) →
          (∀ g1 c1 w4, Keep [] w w4 → w2.heap.size ≤ w4.heap.size → Own w4 B 3 1 (.slice (some ⟨g1, 0, none⟩) (n + Kp.length + 1) c1) (n + Kp.length + 1) (acells (Q.take n ++ Kp) ++ [.int .i64 q.1]) → Own w4 B 32 8 v5 (n + Kp.length) (qcells (Q.take n ++ Kp)) → w.heap.size ≤ g1 → v5.ownBlock ≠ some g1 →
            (∀ b L e, w2.heap.size ≤ b → Blk w3 b L e → Blk w4 b L e) → K (.slice (some ⟨g1, 0, none⟩) (n + Kp.length + 1) c1) w4) → OpTo Try.prog n' σ o w3 K := by
        intro w3 b1 n' σ o K hk3 hb1 ho hx hy hK
        have hsz3 := hk3.size
        refine opTo_app B 3 1 8 (acells (Q.take n ++ Kp)) [.int .i64 q.1] ho hx hy (by decide +kernel) (ho4.keep hk3 (by simp)) (hb1.range (by simp)) rfl (by simp; rfl) (by decide) (by unfold maxLen; omega) (by omega) (by omega) ?_
        intro g1 c1 w4 ho3 hat
        have hg1 : w.heap.size ≤ g1 := by
          rcases hat with ⟨e, hc, _⟩ | ⟨e, _, _⟩
          · rcases hs4 with hs | hs
            · omega
            · exact hs g1 e
          · omega
        refine hK g1 c1 w4 ?_ ?_ ho3 ?_ hg1 ?_ ?_
        · rcases hat with ⟨_, _, hk⟩ | ⟨_, hk, _⟩
          · exact (hk2.tr0 hk3).trans hk fun k hk => .inr (by simp only [List.mem_singleton] at hk; omega)
          · exact (hk2.tr0 hk3).tr0 hk
        · rcases hat with ⟨_, _, hk⟩ | ⟨_, hk, _⟩
          · exact Nat.le_trans hsz3 hk.size
          · exact Nat.le_trans hsz3 hk.size
        · have ho2 := ho5.keep hk3 (by simp)
          rcases hat with ⟨e, _, hk⟩ | ⟨_, hk, _⟩
          · exact ho2.keep hk fun k e2 => by
              simp only [List.mem_singleton]
              intro e3
              exact h45 g1 e (e3 ▸ e2)
          · exact ho2.keep hk (by simp)
        · intro e2
          rcases hat with ⟨e, _, _⟩ | ⟨e, _, _⟩
          · exact h45 g1 e e2
          · have := (h5b g1 e2).2
            omega
        · intro b L e hb hbl
          rcases hat with ⟨e1, _, hk⟩ | ⟨_, hk, _⟩
          · refine hk.blk hbl ?_
            have := (h4b g1 e1).2
            simp only [List.mem_singleton]
            omega
          · exact hk.blk hbl (by simp)
      -- ahead of both appends
      refine dr_with 4 523775 (fun σ w3 => ∃ b1 b2, σ = [(0, .pointer (some ⟨p, 0, none⟩)), (1, .int .u64 mask), (6, .int .i64 ((n + j : Nat) : Int)), (60, v4), (68, .slice (some ⟨b1, 0, none⟩) 1 1), (70, v5), (78, .slice (some ⟨b2, 0, none⟩) 1 1)] ∧
          Keep [] w2 w3 ∧ Blk w3 b1 [.int .i64 q.1] 3 ∧ Blk w3 b2 (ints q.2) 32 ∧ w2.heap.size ≤ b2) ?_ ?_
      · rintro σ w3 ⟨b1, b2, rfl, hk3, hb1, hb2, hge⟩
        refine dr_op 9 rfl (by decide +kernel) rfl rfl (hA1 w3 b1 _ _ _ _ hk3 hb1 rfl rfl rfl ?_)
        intro g1 c1 w4 hk4 hsz4 ho1 ho2 hg1 hn1 hbk
        refine ⟨fun _ => hk4, ?_⟩
        refine dr_sub ?_ (hcont2 _ w4 ⟨g1, c1, b2, rfl, hk4, hsz4, ho1, ho2, hbk b2 _ _ hge hb2, hg1, hn1⟩)
        exact ⟨rfl, rfl, rfl, rfl, rfl, rfl, trivial⟩
      intro hcont1
      have hkd : Keep [] w2 w2.drew := (Keep.refl _ _).drew
      refine dr_op2 8 18 rfl rfl (by decide +kernel) rfl rfl rfl rfl ?_ ?_
      · refine opTo_buildSlice _ _ rfl rfl (slice_int _) ⟨fun _ => hS2.alloc _, ?_⟩
        have hk3 : Keep [] w2 (w2.drew.alloc (.cells [Value.int .i64 q.1].toArray 3)) := hkd.alloc _
        have hb3 : Blk (w2.drew.alloc (.cells [Value.int .i64 q.1].toArray 3)) w2.drew.heap.size [.int .i64 q.1] 3 := Blk.new _ _ _
        generalize (w2.drew.alloc (.cells [Value.int .i64 q.1].toArray 3)) = w3 at *
        have hsz3 := hk3.size
        refine dr_op2 9 18 rfl rfl (by decide +kernel) rfl rfl rfl rfl ?_ ?_
        · refine hA1 w3 _ _ _ _ _ hk3 hb3 rfl rfl rfl ?_
          intro g1 c1 w4 hk4 hsz4 ho1 ho2 hg1 hn1 hbk
          refine ⟨fun _ => hk4, ?_⟩
          refine dr_op 18 rfl (by decide +kernel) rfl rfl (opTo_buildSlice _ _ rfl rfl (slice_words hq8) ⟨fun _ => hk4.alloc _, ?_⟩)
          have hk5 : Keep [] w4 (w4.alloc (.cells (ints q.2).toArray 32)) := (Keep.refl _ _).alloc _
          refine dr_sub ?_ (hcont2 _ _ ⟨g1, c1, w4.heap.size, rfl, hk4.tr0 hk5, Nat.le_trans hsz4 hk5.size, ho1.keep hk5 (by simp), ho2.keep hk5 (by simp), Blk.new _ _ _, hg1, hn1⟩)
          exact ⟨rfl, rfl, rfl, rfl, rfl, rfl, trivial⟩
        · refine opTo_buildSlice _ _ rfl rfl (slice_words hq8) ⟨fun _ => (hk2.tr0 hk3).alloc _, ?_⟩
          have hk4 : Keep [] w3 (w3.alloc (.cells (ints q.2).toArray 32)) := (Keep.refl _ _).alloc _
          refine dr_sub ?_ (hcont1 _ _ ⟨w2.drew.heap.size, w3.heap.size, rfl, hk3.tr0 hk4, hk4.blk hb3 (by simp), Blk.new _ _ _, hsz3⟩)
          exact ⟨rfl, rfl, rfl, rfl, rfl, rfl, rfl, trivial⟩
      · refine opTo_buildSlice _ _ rfl rfl (slice_words hq8) ⟨fun _ => hS2.alloc _, ?_⟩
        have hk3 : Keep [] w2 (w2.drew.alloc (.cells (ints q.2).toArray 32)) := hkd.alloc _
        have hb3 : Blk (w2.drew.alloc (.cells (ints q.2).toArray 32)) w2.drew.heap.size (ints q.2) 32 := Blk.new _ _ _
        generalize (w2.drew.alloc (.cells (ints q.2).toArray 32)) = w3 at *
        refine dr_op 8 rfl (by decide +kernel) rfl rfl (opTo_buildSlice _ _ rfl rfl (slice_int _) ⟨fun _ => (hk2.tr0 hk3).alloc _, ?_⟩)
        have hk4 : Keep [] w3 (w3.alloc (.cells [Value.int .i64 q.1].toArray 3)) := (Keep.refl _ _).alloc _
        refine dr_sub ?_ (hcont1 _ _ ⟨w3.heap.size, w2.drew.heap.size, rfl, hk3.tr0 hk4, Blk.new _ _ _, hk4.blk hb3 (by simp), Nat.le_refl _⟩)
        exact ⟨rfl, rfl, rfl, rfl, rfl, rfl, rfl, trivial⟩
  clear ih
  have hjj : j = Q.length - n := by omega
  subst hjj
  refine pl_val (.bool false) rfl rfl (val_int .i64 _ _ _ rfl rfl rfl (by simp [intOp]; omega) w2) ?_
  repeat (first | refine pl_pure hT rfl rfl rfl ?_ | refine pl_nil ?_ | refine rn_seq ?_ | refine rn_plain ?_ | refine rn_block ?_ | refine rn_inBlock ?_ | refine rn_skip ?_ | refine rn_true rfl ?_ | refine rn_false rfl ?_ | refine rn_exit rfl ?_ | refine pl_not rfl rfl ?_)
  obtain ⟨x4, c4, e4⟩ := ho4.form
  refine pl_val (.int .i64 ((n + (kept (maskB mask) (Q.drop n) (Q.length - n)).length : Nat) : Int)) rfl rfl (val_pure hT (by subst e4; rfl) w2) ?_
  have hkm : ∀ q ∈ kept (maskB mask) (Q.drop n) (Q.length - n), q ∈ Q := fun q hq => List.mem_of_mem_drop (kept_mem (by omega) hq)
  generalize kept (maskB mask) (Q.drop n) (Q.length - n) = Kp at *
  repeat (first | refine pl_pure hT rfl rfl rfl ?_ | refine pl_nil ?_ | refine rn_seq ?_ | refine rn_plain ?_ | refine rn_block ?_ | refine rn_inBlock ?_ | refine rn_skip ?_ | refine rn_true rfl ?_ | refine rn_false rfl ?_ | refine rn_exit rfl ?_ | refine pl_not rfl rfl ?_)
  refine pl_op rfl rfl (opTo_store [v4] rfl rfl rfl (by subst e4; rfl) (by kernel_rfl) h2.blk (by simp) (by simp; subst e4; rfl) ?_)
  have hsp : splice [av, wv, .int .i64 (n : Nat)] (0 + 0) [v4] = [v4, wv, .int .i64 (n : Nat)] := rfl
  rw [hsp]
  have hb3 := h2.blk.set [v4, wv, .int .i64 (n : Nat)]
  have hk3 : Keep [p] w2 (w2.setRow p [v4, wv, .int .i64 (n : Nat)].toArray) := (Keep.refl _ _).setRow _ _ (.inl (by simp))
  generalize (w2.setRow p [v4, wv, .int .i64 (n : Nat)].toArray) = w3 at *
  repeat (first | refine pl_pure hT rfl rfl rfl ?_ | refine pl_nil ?_ | refine rn_seq ?_ | refine rn_plain ?_ | refine rn_block ?_ | refine rn_inBlock ?_ | refine rn_skip ?_ | refine rn_true rfl ?_ | refine rn_false rfl ?_ | refine rn_exit rfl ?_ | refine pl_not rfl rfl ?_)
  obtain ⟨x5, c5, e5⟩ := ho5.form
  refine pl_op rfl rfl (opTo_store [v5] rfl rfl rfl (by subst e5; rfl) (by kernel_rfl) hb3 (by simp) (by simp; subst e5; rfl) ?_)
  have hsp2 : splice [v4, wv, .int .i64 (n : Nat)] (0 + 1) [v5] = [v4, v5, .int .i64 (n : Nat)] := rfl
  rw [hsp2]
  have hb4 := hb3.set [v4, v5, .int .i64 (n : Nat)]
  have hk4 : Keep [p] w2 (w3.setRow p [v4, v5, .int .i64 (n : Nat)].toArray) := hk3.setRow _ _ (.inl (by simp))
  generalize (w3.setRow p [v4, v5, .int .i64 (n : Nat)].toArray) = w4 at *
  repeat (first | refine pl_pure hT rfl rfl rfl ?_ | refine pl_nil ?_ | refine rn_seq ?_ | refine rn_plain ?_ | refine rn_block ?_ | refine rn_inBlock ?_ | refine rn_skip ?_ | refine rn_true rfl ?_ | refine rn_false rfl ?_ | refine rn_exit rfl ?_ | refine pl_not rfl rfl ?_)
  refine pl_op rfl rfl (opTo_store _ rfl rfl rfl rfl (by kernel_rfl) hb4 (by simp) (by simp; rfl) ?_)
  have hsp3 : splice [v4, v5, .int .i64 (n : Nat)] (0 + 2) [.int .i64 ((n + Kp.length : Nat) : Int)] = [v4, v5, .int .i64 ((n + Kp.length : Nat) : Int)] := rfl
  rw [hsp3]
  have hb5 := hb4.set [v4, v5, .int .i64 ((n + Kp.length : Nat) : Int)]
  have hk5 : Keep [p] w2 (w4.setRow p [v4, v5, .int .i64 ((n + Kp.length : Nat) : Int)].toArray) := hk4.setRow _ _ (.inl (by simp))
  generalize (w4.setRow p [v4, v5, .int .i64 ((n + Kp.length : Nat) : Int)].toArray) = w5 at *
  repeat (first | refine pl_pure hT rfl rfl rfl ?_ | refine pl_nil ?_ | refine rn_seq ?_ | refine rn_plain ?_ | refine rn_block ?_ | refine rn_inBlock ?_ | refine rn_skip ?_ | refine rn_true rfl ?_ | refine rn_false rfl ?_ | refine rn_exit rfl ?_ | refine pl_not rfl rfl ?_)
  have hln : (Q.take n ++ Kp).length = n + Kp.length := by rw [List.length_append, List.length_take, Nat.min_eq_left hle]
  refine rn_end Try.func13 (.inr (.inl ⟨rfl, rfl⟩)) ⟨rfl, v4, v5, ⟨hb5, ?_, ?_, fun e => (hf4 p e).1 rfl, fun e => (hf5 p e).1 rfl, h45, by omega, h.base, ?_⟩, (hk2.of0).tr hk5, ?_⟩
  · rw [hln]
    exact ho4.keep hk5 fun k e => by simp only [List.mem_singleton]; exact (hf4 k e).1
  · rw [hln]
    exact ho5.keep hk5 fun k e => by simp only [List.mem_singleton]; exact (hf5 k e).1
  · intro q hq
    rcases List.mem_append.1 hq with hq | hq
    · exact h.wf q (List.mem_of_mem_take hq)
    · exact h.wf q (hkm q hq)
  · intro k hk
    rcases mem_fpP.1 hk with rfl | hk | hk
    · exact .inl (mem_fpP.2 (.inl rfl))
    · exact (hf4 k hk).2
    · exact (hf5 k hk).2
end
end E
end Go.Proofs.Ytoegglcdpdohdaa
