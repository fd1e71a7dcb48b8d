/- The contract of a memory's Sync; SameLongs. -/
import Derived.Test.YtcnjmjdnlhiflabMoM
namespace Go.Proofs.Ytcnjmjdnlhiflab
set_option maxRecDepth 20000
namespace E
open Go.Proofs

theorem built_bools0 : Try.prog.built 52 [] = some (bools (List.replicate 14 false)).toArray := by kernel_rfl

/-- Is a sync done by so many deeds? -/
def doneB (ps : List Pg) (may : Int) : Bool := decide (may < 0 ∨ may ≥ (ps.length + 5 : Nat))
def deedsN (ps : List Pg) (may : Int) : Nat := if may < 0 ∨ may ≥ (ps.length + 5 : Nat) then ps.length + 5 else may.toNat

section
variable {B : Nat} {w : World} {m s d : Nat} {W : List Int} {D : List Bool} {S : List Int} {wv : Value}

theorem sync_ret (h : MemV w m s W D) (hs : StoreV w s d) (hd : DiskV B w d S [] wv) (hg1 : genS S < 1000000) (may : Int) :
    Ret Try.prog 22 [.pointer (some ⟨m, 0, none⟩), .int .i64 may] w fun v w' => v = .bool (doneB (dirtyPs W D) may) ∧
      MemV w' m s W (if doneB (dirtyPs W D) may then List.replicate 14 false else D) ∧ StoreV w' s d ∧ Keep (m :: fpD d wv) w w' ∧
      ∃ wv', DiskV B w' d (doDeeds ((deedsOf S (dirtyPs W D)).take (deedsN (dirtyPs W D) may)) (S, [])).1 (doDeeds ((deedsOf S (dirtyPs W D)).take (deedsN (dirtyPs W D) may)) (S, [])).2 wv' ∧ ∀ k ∈ fpD d wv', k ∈ fpD d wv ∨ w.heap.size ≤ k := by
  refine ret_of 24 Try.func22 rfl rfl (by simp) ?_
  have hps := chk_dirty W D
  have hlen : (dirtyPs W D).length ≤ 14 := dirtyTo_len W D 14
  repeat (first | refine pl_pure hT rfl rfl rfl ?_ | refine pl_nil ?_ | refine rn_seq ?_ | refine rn_plain ?_ | refine rn_block ?_ | refine rn_inBlock ?_ | refine rn_skip ?_ | refine rn_true rfl ?_ | refine rn_false rfl ?_ | refine rn_exit rfl ?_ | refine pl_not rfl rfl ?_)
  have hb0 : Blk w.drew m (mcells s W D) 67 := h.blk
  refine rn_draw (fun w' => Blk w' m (mcells s W D) 67) [] hMix ?_
  refine dr_pure 0 hT rfl (by decide +kernel) rfl rfl rfl ?_
  refine dr_pure 1 hT rfl (by decide +kernel) rfl rfl rfl ?_
  refine dr_pure 2 hT rfl (by decide +kernel) rfl rfl rfl ?_
  refine dr_val 3 (.pointer (some ⟨s, 0, none⟩)) rfl (by decide +kernel) rfl rfl (fun w' hk => val_load1 hT rfl rfl rfl (hk.cell rfl)) hb0 ?_
  refine dr_pure 4 hT rfl (by decide +kernel) rfl rfl rfl ?_
  refine dr_pure 6 hT rfl (by decide +kernel) rfl rfl rfl ?_
  have hk0 : Keep [] w w.drew := (Keep.refl _ _).drew
  refine dr_op 5 rfl (by decide +kernel) rfl rfl (opTo_call rfl rfl rfl rfl (by decide +kernel) ((dirty_ret (h.keep hk0 (by simp))).mono ?_))
  rintro v w1 ⟨hp1, hk1⟩
  have hkw1 := hk0.tr0 hk1
  have h1 := h.keep hkw1 (by simp)
  have hs1 : StoreV w1 s d := hkw1.blk hs (by simp)
  have hd1 := hd.keep hkw1 (by simp)
  refine ⟨fun _ => h1.blk, ?_⟩
  have hm1 : m ∉ fpD d wv := not_fp hd1 h1.blk (by decide)
  have hsn : s ∉ fpD d wv := not_fp hd1 hs1 (by decide)
  refine dr_op 7 rfl (by decide +kernel) rfl rfl (opTo_call rfl rfl rfl rfl (by decide +kernel) ((commit_ret hs1 hd1 hp1 (by omega) (by decide) (genS_nonneg S) hg1 may hps (deedsN (dirtyPs W D) may) rfl).mono ?_))
  rintro v w2 ⟨rfl, wv2, hd2, hk2, hf2⟩
  have hkw2 : Keep (fpD d wv) w w2 := (hkw1.of0).tr hk2
  have h2 := h1.keep hk2 hm1
  have hs2 : StoreV w2 s d := hk2.blk hs1 hsn
  refine ⟨fun _ => h2.blk, ?_⟩
  have hfin : ∀ k ∈ fpD d wv2, k ∈ fpD d wv ∨ w.heap.size ≤ k := fun k hk => (hf2 k hk).imp id fun h1 => Nat.le_trans hkw1.size h1
  refine dr_pure 8 hT rfl (by decide +kernel) rfl rfl rfl ?_
  refine dr_pure 9 hT rfl (by decide +kernel) rfl rfl rfl ?_
  refine dr_pure 10 hT rfl (by decide +kernel) rfl rfl rfl ?_
  refine dr_pure 11 hT rfl (by decide +kernel) rfl rfl rfl ?_
  refine dr_pure 12 hT rfl (by decide +kernel) rfl rfl rfl ?_
  refine dr_done (by decide +kernel) ?_
  change Rn _ _ _ _ _ _ _
  rw [show decide (may < 0 ∨ may ≥ ((dirtyPs W D).length + 5 : Nat)) = doneB (dirtyPs W D) may from rfl]
  cases hb : doneB (dirtyPs W D) may with
  | false =>
    repeat (first | refine pl_pure hT rfl rfl rfl ?_ | refine pl_nil ?_ | refine rn_seq ?_ | refine rn_plain ?_ | refine rn_block ?_ | refine rn_inBlock ?_ | refine rn_skip ?_ | refine rn_true rfl ?_ | refine rn_false rfl ?_ | refine rn_exit rfl ?_ | refine pl_not rfl rfl ?_)
    exact rn_ret Try.func22 (.inl ⟨_, rfl, rfl⟩) ⟨rfl, h2, hs2, hkw2.mono fun k hk => .inl (by simp [hk]), wv2, hd2, hfin⟩
  | true =>
    repeat (first | refine pl_pure hT rfl rfl rfl ?_ | refine pl_nil ?_ | refine rn_seq ?_ | refine rn_plain ?_ | refine rn_block ?_ | refine rn_inBlock ?_ | refine rn_skip ?_ | refine rn_true rfl ?_ | refine rn_false rfl ?_ | refine rn_exit rfl ?_ | refine pl_not rfl rfl ?_)
    refine pl_val _ rfl rfl (val_build _ rfl rfl built_bools0 w2) ?_
    repeat (first | refine pl_pure hT rfl rfl rfl ?_ | refine pl_nil ?_ | refine rn_seq ?_ | refine rn_plain ?_ | refine rn_block ?_ | refine rn_inBlock ?_ | refine rn_skip ?_ | refine rn_true rfl ?_ | refine rn_false rfl ?_ | refine rn_exit rfl ?_ | refine pl_not rfl rfl ?_)
    refine pl_op rfl rfl (opTo_store (bools (List.replicate 14 false)) rfl rfl rfl rfl (by kernel_rfl) h2.blk (by rw [mcells_length h2.wl h2.dl]; decide) (bools_one _) ?_)
    rw [show 0 + 113 = 113 from rfl, m_setDs h2.wl (by rw [h2.dl]; rfl)]
    have hk3 : Keep [m] w2 (w2.setRow m (mcells s W (List.replicate 14 false)).toArray) := (Keep.refl _ _).setRow _ _ (.inl (by simp))
    have hm2 : m ∉ fpD d wv2 := not_fp hd2 h2.blk (by decide)
    repeat (first | refine pl_pure hT rfl rfl rfl ?_ | refine pl_nil ?_ | refine rn_seq ?_ | refine rn_plain ?_ | refine rn_block ?_ | refine rn_inBlock ?_ | refine rn_skip ?_ | refine rn_true rfl ?_ | refine rn_false rfl ?_ | refine rn_exit rfl ?_ | refine pl_not rfl rfl ?_)
    refine rn_ret Try.func22 (.inl ⟨_, rfl, rfl⟩) ⟨rfl, ⟨h2.blk.set _, h2.wl, by simp⟩, hk3.blk hs2 (by simp; exact Blk.ne hs2 h2.blk (by decide)), ?_, wv2, hd2.keep hk3 fun k hk hm => hm2 (by simp at hm; rw [← hm]; exact hk), hfin⟩
    exact (hkw2.mono fun k hk => .inl (by simp [hk])).trans hk3 fun k hk => .inl (by simp at hk; simp [hk])

theorem longs_ret {a b : Value} {A : List Int} (ha : Wds w a A) (hb : Wds w b A) : Ret Try.prog 26 [a, b] w fun v w' => v = .bool true ∧ Keep [] w w' := by
  refine ret_of 26 Try.func26 rfl rfl (by simp) ?_
  have hl : A.length = 112 := by obtain ⟨_, _, _, _, hl, _⟩ := ha; exact hl
  obtain ⟨ga, ca, rfl, hla, hra, _⟩ := ha.at
  obtain ⟨gb, cb, rfl, hlb, hrb, _⟩ := hb.at
  clear ha hb
  repeat (first | refine pl_pure hT rfl rfl rfl ?_ | refine pl_nil ?_ | refine rn_seq ?_ | refine rn_plain ?_ | refine rn_block ?_ | refine rn_inBlock ?_ | refine rn_skip ?_ | refine rn_true rfl ?_ | refine rn_false rfl ?_ | refine rn_exit rfl ?_ | refine pl_not rfl rfl ?_)
  refine pl_val (.bool false) rfl rfl (val_int .i64 112 112 _ rfl rfl rfl rfl w) ?_
  repeat (first | refine pl_pure hT rfl rfl rfl ?_ | refine pl_nil ?_ | refine rn_seq ?_ | refine rn_plain ?_ | refine rn_block ?_ | refine rn_inBlock ?_ | refine rn_skip ?_ | refine rn_true rfl ?_ | refine rn_false rfl ?_ | refine rn_exit rfl ?_ | refine pl_not rfl rfl ?_)
  refine rn_ind (fun q σ w' => ∃ j, q = 112 - j ∧ j ≤ 112 ∧ σ = [(0, .slice (some ⟨ga, 0, none⟩) 112 ca), (1, .slice (some ⟨gb, 0, none⟩) 112 cb), (5, .int .i64 (j : Nat))] ∧ Keep [] w w')
    (112 - 0) _ ?_ ⟨0, rfl, by decide, rfl, Keep.refl _ _⟩ ?_
  · exact ⟨rfl, rfl, rfl, trivial⟩
  rintro q σ w1 ih ⟨j, hq, hj, rfl, hk1⟩
  repeat (first | refine pl_pure hT rfl rfl rfl ?_ | refine pl_nil ?_ | refine rn_seq ?_ | refine rn_plain ?_ | refine rn_block ?_ | refine rn_inBlock ?_ | refine rn_skip ?_ | refine rn_true rfl ?_ | refine rn_false rfl ?_ | refine rn_exit rfl ?_ | refine pl_not rfl rfl ?_)
  rcases Nat.lt_or_ge j 112 with hlt | hge
  · refine pl_val (.bool true) rfl rfl (val_int .i64 _ _ _ rfl rfl rfl (by simp [intOp]; omega) w1) ?_
    repeat (first | refine pl_pure hT rfl rfl rfl ?_ | refine pl_nil ?_ | refine rn_seq ?_ | refine rn_plain ?_ | refine rn_block ?_ | refine rn_inBlock ?_ | refine rn_skip ?_ | refine rn_true rfl ?_ | refine rn_false rfl ?_ | refine rn_exit rfl ?_ | refine pl_not rfl rfl ?_)
    have hk0 : Keep [] w w1.drew := hk1.drew
    obtain ⟨x, hx⟩ : ∃ x, A[j]? = some x := ⟨_, List.getElem?_eq_getElem (by omega)⟩
    have hca : ∀ w', Keep [] w w' → w'.cell? ⟨ga, 0 + j * 1, none⟩ = some (.int .i64 x) := fun w' hk => by
      rw [Nat.mul_one]
      exact (hk.range hra hla (by simp)) j _ (by simp [ints, hx])
    have hcb : ∀ w', Keep [] w w' → w'.cell? ⟨gb, 0 + j * 1, none⟩ = some (.int .i64 x) := fun w' hk => by
      rw [Nat.mul_one]
      exact (hk.range hrb hlb (by simp)) j _ (by simp [ints, hx])
    refine rn_draw (fun w' => Keep [] w w') [] hMix ?_
    refine dr_pure 0 hT rfl (by decide +kernel) rfl rfl rfl ?_
    refine dr_pure 1 hT rfl (by decide +kernel) rfl rfl rfl ?_
    refine dr_any 2 _ rfl (by decide +kernel) rfl rfl (fun w' => val_index j hT rfl rfl rfl rfl rfl hlt w') ?_
    refine dr_val 3 (.int .i64 x) rfl (by decide +kernel) rfl rfl (fun w' hk => val_load1 hT rfl rfl rfl (hca w' hk)) hk0 ?_
    refine dr_pure 4 hT rfl (by decide +kernel) rfl rfl rfl ?_
    refine dr_pure 5 hT rfl (by decide +kernel) rfl rfl rfl ?_
    refine dr_any 6 _ rfl (by decide +kernel) rfl rfl (fun w' => val_index j hT rfl rfl rfl rfl rfl hlt w') ?_
    refine dr_val 7 (.int .i64 x) rfl (by decide +kernel) rfl rfl (fun w' hk => val_load1 hT rfl rfl rfl (hcb w' hk)) hk0 ?_
    refine dr_any 8 (.bool false) rfl (by decide +kernel) rfl rfl (fun w' => val_int .i64 _ _ _ rfl rfl rfl (by simp [intOp]) w') ?_
    refine dr_done (by decide +kernel) ?_
    repeat (first | refine pl_pure hT rfl rfl rfl ?_ | refine pl_nil ?_ | refine rn_seq ?_ | refine rn_plain ?_ | refine rn_block ?_ | refine rn_inBlock ?_ | refine rn_skip ?_ | refine rn_true rfl ?_ | refine rn_false rfl ?_ | refine rn_exit rfl ?_ | refine pl_not rfl rfl ?_)
    refine pl_val (.int .i64 ((j + 1 : Nat) : Int)) rfl rfl (val_int .i64 j 1 _ rfl rfl rfl (by simp only [intOp]; rw [wrap_i64 (by omega) (by omega)]; rfl) _) ?_
    repeat (first | refine pl_pure hT rfl rfl rfl ?_ | refine pl_nil ?_ | refine rn_seq ?_ | refine rn_plain ?_ | refine rn_block ?_ | refine rn_inBlock ?_ | refine rn_skip ?_ | refine rn_true rfl ?_ | refine rn_false rfl ?_ | refine rn_exit rfl ?_ | refine pl_not rfl rfl ?_)
    refine rn_sub ?_ (ih (112 - (j + 1)) _ _ (by omega) ⟨j + 1, rfl, hlt, rfl, hk0⟩)
    exact ⟨rfl, rfl, rfl, trivial⟩
  · refine pl_val (.bool false) rfl rfl (val_int .i64 _ _ _ rfl rfl rfl (by simp [intOp]; omega) w1) ?_
    repeat (first | refine pl_pure hT rfl rfl rfl ?_ | refine pl_nil ?_ | refine rn_seq ?_ | refine rn_plain ?_ | refine rn_block ?_ | refine rn_inBlock ?_ | refine rn_skip ?_ | refine rn_true rfl ?_ | refine rn_false rfl ?_ | refine rn_exit rfl ?_ | refine pl_not rfl rfl ?_)
    exact rn_ret Try.func26 (.inl ⟨_, rfl, rfl⟩) ⟨rfl, hk1⟩
end
end E
end Go.Proofs.Ytcnjmjdnlhiflab
