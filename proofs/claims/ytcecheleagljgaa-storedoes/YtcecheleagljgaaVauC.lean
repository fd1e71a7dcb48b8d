/- sameStore: a store that tells what the document's tells. -/
import Derived.Test.YtcecheleagljgaaVauB
namespace Go.Proofs.Ytcecheleagljgaa
set_option maxRecDepth 20000
namespace E
open Go.Proofs

theorem same_ret {B : Nat} {w : World} {s d vb : Nat} {S : List Int} {L : List Wr} {wv : Value} {P X : Nat → List Int} {b : Bool} (hs : StoreV w s d) (hd : DiskV B w d S L wv) (hv : Blk w vb (vcells (genS S) P b X) 50) (hP : Full P) (hrd : ∀ i, i < 14 → readS S (i : Nat) = P i) :
    Ret Try.prog 32 [.pointer (some ⟨s, 0, none⟩), .pointer (some ⟨vb, 0, none⟩)] w fun v w' => v = .bool true ∧ Keep [] w w' := by
  refine ret_of 47 Try.func32 rfl rfl (by simp) ?_
  repeat (first | refine pl_pure hT rfl rfl rfl ?_ | refine pl_nil ?_ | refine rn_seq ?_ | refine rn_plain ?_ | refine rn_block ?_ | refine rn_inBlock ?_ | refine rn_skip ?_ | refine rn_true rfl ?_ | refine rn_false rfl ?_ | refine rn_exit rfl ?_ | refine pl_not rfl rfl ?_)
  refine rn_ind (fun q σ w' => ∃ j, q = 16 - j ∧ j ≤ 16 ∧ σ = [(0, .pointer (some ⟨s, 0, none⟩)), (1, .pointer (some ⟨vb, 0, none⟩)), (5, .int .i64 ((j : Int) - 1))] ∧ Keep [] w w')
    (16 - 0) _ ?_ ⟨0, rfl, by decide, rfl, Keep.refl _ _⟩ ?_
  · exact ⟨rfl, rfl, rfl, trivial⟩
  rintro q σ w1 ih ⟨j, hq, hj, rfl, hk1⟩
  repeat (first | refine pl_pure hT rfl rfl rfl ?_ | refine pl_nil ?_ | refine rn_seq ?_ | refine rn_plain ?_ | refine rn_block ?_ | refine rn_inBlock ?_ | refine rn_skip ?_ | refine rn_true rfl ?_ | refine rn_false rfl ?_ | refine rn_exit rfl ?_ | refine pl_not rfl rfl ?_)
  rcases Nat.lt_or_ge j 16 with hlt | hge
  case inr =>
    refine pl_val (.bool false) rfl rfl (val_int .i64 _ 14 _ rfl rfl rfl (by simp [intOp]; omega) w1) ?_
    repeat (first | refine pl_pure hT rfl rfl rfl ?_ | refine pl_nil ?_ | refine rn_seq ?_ | refine rn_plain ?_ | refine rn_block ?_ | refine rn_inBlock ?_ | refine rn_skip ?_ | refine rn_true rfl ?_ | refine rn_false rfl ?_ | refine rn_exit rfl ?_ | refine pl_not rfl rfl ?_)
    have hk0 : Keep [] w w1.drew := hk1.drew
    refine rn_draw (fun w' => Keep [] w w') [] hMix ?_
    refine dr_pure 0 hT rfl (by decide +kernel) rfl rfl rfl ?_
    refine dr_pure 2 hT rfl (by decide +kernel) rfl rfl rfl ?_
    refine dr_pure 3 hT rfl (by decide +kernel) rfl rfl rfl ?_
    refine dr_pure 4 hT rfl (by decide +kernel) rfl rfl rfl ?_
    refine dr_val 5 (.int .i64 (genS S)) rfl (by decide +kernel) rfl rfl (fun w' hk => val_load1 hT rfl rfl rfl ((hk.blk hv (by simp)).cell rfl)) hk0 ?_
    refine dr_op 1 rfl (by decide +kernel) rfl rfl (opTo_call rfl rfl rfl rfl (by decide +kernel) ((gen_ret (hk0.blk hs (by simp)) (hd.keep hk0 (by simp))).mono ?_))
    rintro v w2 ⟨rfl, hk2⟩
    have hk2 := hk0.tr0 hk2
    refine ⟨fun _ => hk2, ?_⟩
    refine dr_any 6 (.bool true) rfl (by decide +kernel) rfl rfl (fun w' => val_int .i64 _ _ _ rfl rfl rfl (by simp [intOp]) w') ?_
    refine dr_pure 7 hT rfl (by decide +kernel) rfl rfl rfl ?_
    refine dr_done (by decide +kernel) ?_
    repeat (first | refine pl_pure hT rfl rfl rfl ?_ | refine pl_nil ?_ | refine rn_seq ?_ | refine rn_plain ?_ | refine rn_block ?_ | refine rn_inBlock ?_ | refine rn_skip ?_ | refine rn_true rfl ?_ | refine rn_false rfl ?_ | refine rn_exit rfl ?_ | refine pl_not rfl rfl ?_)
    exact rn_ret Try.func32 (.inl ⟨_, rfl, rfl⟩) ⟨rfl, hk2⟩
  refine pl_val (.bool true) rfl rfl (val_int .i64 _ 14 _ rfl rfl rfl (by simp [intOp]; omega) w1) ?_
  have hgoal : ∀ i : Int, readS S i = if hasP i then P i.toNat else z8 := fun i => by
    cases hi : hasP i with
    | true =>
      have hi' : 0 ≤ i ∧ i < 14 := by simpa [hasP] using hi
      rw [if_pos rfl, ← hrd i.toNat (by omega), show ((i.toNat : Nat) : Int) = i by omega]
    | false => simp [readS, hi]
  have hlen : ∀ i, (readS S i).length = 8 := fun i => readS_length hd.len i
  generalize hp : ((j : Int) - 1) = p at *
  repeat (first | refine pl_pure hT rfl rfl rfl ?_ | refine pl_nil ?_ | refine rn_seq ?_ | refine rn_plain ?_ | refine rn_block ?_ | refine rn_inBlock ?_ | refine rn_skip ?_ | refine rn_true rfl ?_ | refine rn_false rfl ?_ | refine rn_exit rfl ?_ | refine pl_not rfl rfl ?_)
  refine pl_val _ rfl rfl (val_build _ rfl rfl built_words0 w1) ?_
  refine pl_op rfl rfl (opTo_alloc _ rfl zero_words ?_)
  have hk2 := hk1.alloc (.cells (ints (List.replicate 8 0)).toArray 32)
  have hx2 := Blk.new w1 (ints (List.replicate 8 0)) 32
  generalize (w1.alloc (.cells (ints (List.replicate 8 0)).toArray 32)) = w2 at *
  have hle := hk1.size
  repeat (first | refine pl_pure hT rfl rfl rfl ?_ | refine pl_nil ?_ | refine rn_seq ?_ | refine rn_plain ?_ | refine rn_block ?_ | refine rn_inBlock ?_ | refine rn_skip ?_ | refine rn_true rfl ?_ | refine rn_false rfl ?_ | refine rn_exit rfl ?_ | refine pl_not rfl rfl ?_)
  refine pl_op rfl rfl (opTo_store _ rfl rfl rfl rfl (by kernel_rfl) hx2 (by simp [ints]) (ints_one _) ?_)
  rw [splice_all rfl]
  have hk3 := hk2.setRow w1.heap.size (ints (List.replicate 8 0)).toArray (.inr hle)
  have hx3 := hx2.set (ints (List.replicate 8 0))
  generalize (w2.setRow w1.heap.size (ints (List.replicate 8 0)).toArray) = w3 at *
  generalize w1.heap.size = x at *
  clear hk2 hx2 hk1
  repeat (first | refine pl_pure hT rfl rfl rfl ?_ | refine pl_nil ?_ | refine rn_inBlock ?_ | refine rn_skip ?_ | refine rn_true rfl ?_ | refine rn_false rfl ?_ | refine rn_exit rfl ?_)
  refine rn_seq ?_
  refine rn_with (fun σ w' => σ = [(0, .pointer (some ⟨s, 0, none⟩)), (1, .pointer (some ⟨vb, 0, none⟩)), (5, .int .i64 p), (6, .pointer (some ⟨x, 0, none⟩))] ∧ Keep [] w w' ∧ Blk w' x (ints (readS S p)) 32) ?_ ?_
  · rintro σ w4 ⟨rfl, hk4, hx4⟩
    clear hk3 hx3
    repeat (first | refine pl_pure hT rfl rfl rfl ?_ | refine pl_nil ?_ | refine rn_seq ?_ | refine rn_plain ?_ | refine rn_block ?_ | refine rn_inBlock ?_ | refine rn_skip ?_ | refine rn_true rfl ?_ | refine rn_false rfl ?_ | refine rn_exit rfl ?_ | refine pl_not rfl rfl ?_)
    have hk0 : Keep [] w4 w4.drew := (Keep.refl _ _).drew
    have h4 := hd.keep hk4 (by simp)
    have hs4 : StoreV w4 s d := hk4.blk hs (by simp)
    have h8 := hlen p
    refine rn_draw (fun w' => Keep [] w4 w') [] hMix ?_
    refine dr_pure 0 hT rfl (by decide +kernel) rfl rfl rfl ?_
    refine dr_pure 1 hT rfl (by decide +kernel) rfl rfl rfl ?_
    refine dr_val 3 (.agg (ints (readS S p)).toArray) rfl (by decide +kernel) rfl rfl (fun w' hk => val_load _ hT rfl rfl (by rw [ints_length, h8]; rfl) ((hk.blk hx4 (by simp)).range (by simp))) hk0 ?_
    refine dr_op 2 rfl (by decide +kernel) rfl rfl (opTo_call rfl rfl rfl rfl (by decide +kernel) ((sread_ret (hk0.blk hs4 (by simp)) (h4.keep hk0 (by simp)) p).mono ?_))
    rintro v w5 ⟨rfl, hk5⟩
    have hk5 := hk0.tr0 hk5
    refine ⟨fun _ => hk5, ?_⟩
    refine dr_any 4 (.bool false) rfl (by decide +kernel) rfl rfl (fun w' => val_neInts _ _ arrW rfl rfl rfl h8 h8 _ (by simp) w') ?_
    refine dr_pure 5 hT rfl (by decide +kernel) rfl rfl rfl ?_
    refine dr_pure 6 hT rfl (by decide +kernel) rfl rfl rfl ?_
    refine dr_pure 8 hT rfl (by decide +kernel) rfl rfl rfl ?_
    refine dr_any 9 (.bool (decide (0 ≤ p))) rfl (by decide +kernel) rfl rfl (fun w' => val_int .i64 _ 0 _ rfl rfl rfl (by simp only [intOp]) w') ?_
    refine dr_op 7 rfl (by decide +kernel) rfl rfl (opTo_call rfl rfl rfl rfl (by decide +kernel) ((hasP_ret p w5).mono ?_))
    rintro v w6 ⟨rfl, rfl⟩
    refine ⟨fun _ => hk5, ?_⟩
    refine dr_pure 10 hT rfl (by decide +kernel) rfl rfl rfl ?_
    have hkw5 := hk4.tr0 hk5
    have hpv : IntKind.i64.wrap (p + 1) = ((j + 1 : Nat) : Int) - 1 := by rw [wrap_i64 (by omega) (by omega)]; omega
    by_cases h0 : 0 ≤ p
    · rw [decide_eq_true h0]
      refine dr_pure 11 hT rfl (by decide +kernel) rfl rfl rfl ?_
      refine dr_any 12 (.bool (decide (p < 14))) rfl (by decide +kernel) rfl rfl (fun w' => val_int .i64 _ 14 _ rfl rfl rfl (by simp only [intOp]) w') ?_
      refine dr_pure 13 hT rfl (by decide +kernel) rfl rfl rfl ?_
      refine dr_any 14 (.bool false) rfl (by decide +kernel) rfl rfl (fun w' => val_neBool _ _ _ (by decide +kernel) rfl rfl rfl (by simp [hasP, h0]) w') ?_
      refine dr_pure 15 hT rfl (by decide +kernel) rfl rfl rfl ?_
      refine dr_done (by decide +kernel) ?_
      repeat (first | refine pl_pure hT rfl rfl rfl ?_ | refine pl_nil ?_ | refine rn_seq ?_ | refine rn_plain ?_ | refine rn_block ?_ | refine rn_inBlock ?_ | refine rn_skip ?_ | refine rn_true rfl ?_ | refine rn_false rfl ?_ | refine rn_exit rfl ?_ | refine pl_not rfl rfl ?_)
      refine pl_val (.int .i64 (((j + 1 : Nat) : Int) - 1)) rfl rfl (val_int .i64 p 1 _ rfl rfl rfl (by simp only [intOp]; rw [hpv]) _) ?_
      repeat (first | refine pl_pure hT rfl rfl rfl ?_ | refine pl_nil ?_ | refine rn_seq ?_ | refine rn_plain ?_ | refine rn_block ?_ | refine rn_inBlock ?_ | refine rn_skip ?_ | refine rn_true rfl ?_ | refine rn_false rfl ?_ | refine rn_exit rfl ?_ | refine pl_not rfl rfl ?_)
      refine rn_sub ?_ (ih (16 - (j + 1)) _ w6 (by omega) ⟨j + 1, rfl, hlt, rfl, hkw5⟩)
      exact ⟨rfl, rfl, rfl, trivial⟩
    · rw [decide_eq_false h0]
      refine dr_not 11 rfl (by decide +kernel) rfl rfl ?_
      refine dr_not 12 rfl (by decide +kernel) rfl rfl ?_
      refine dr_pure 13 hT rfl (by decide +kernel) rfl rfl rfl ?_
      refine dr_any 14 (.bool false) rfl (by decide +kernel) rfl rfl (fun w' => val_neBool _ _ _ (by decide +kernel) rfl rfl rfl (by simp [hasP, h0]) w') ?_
      refine dr_pure 15 hT rfl (by decide +kernel) rfl rfl rfl ?_
      refine dr_done (by decide +kernel) ?_
      repeat (first | refine pl_pure hT rfl rfl rfl ?_ | refine pl_nil ?_ | refine rn_seq ?_ | refine rn_plain ?_ | refine rn_block ?_ | refine rn_inBlock ?_ | refine rn_skip ?_ | refine rn_true rfl ?_ | refine rn_false rfl ?_ | refine rn_exit rfl ?_ | refine pl_not rfl rfl ?_)
      refine pl_val (.int .i64 (((j + 1 : Nat) : Int) - 1)) rfl rfl (val_int .i64 p 1 _ rfl rfl rfl (by simp only [intOp]; rw [hpv]) _) ?_
      repeat (first | refine pl_pure hT rfl rfl rfl ?_ | refine pl_nil ?_ | refine rn_seq ?_ | refine rn_plain ?_ | refine rn_block ?_ | refine rn_inBlock ?_ | refine rn_skip ?_ | refine rn_true rfl ?_ | refine rn_false rfl ?_ | refine rn_exit rfl ?_ | refine pl_not rfl rfl ?_)
      refine rn_sub ?_ (ih (16 - (j + 1)) _ w6 (by omega) ⟨j + 1, rfl, hlt, rfl, hkw5⟩)
      exact ⟨rfl, rfl, rfl, trivial⟩
  intro hjoin
  refine rn_seq ?_
  refine rn_plain ?_
  refine pl_pure hT rfl rfl rfl ?_
  cases hhp : hasP p with
  | true =>
    have hi : 0 ≤ p ∧ p < 14 := by simpa [hasP] using hhp
    refine pl_val (.bool true) rfl rfl (val_int .i64 _ 0 _ rfl rfl rfl (by simp [intOp]; omega) w3) ?_
    repeat (first | refine pl_pure hT rfl rfl rfl ?_)
    refine pl_val (.bool true) rfl rfl (val_int .i64 _ 14 _ rfl rfl rfl (by simp [intOp]; omega) w3) ?_
    repeat (first | refine pl_pure hT rfl rfl rfl ?_ | refine pl_nil ?_)
    refine rn_true rfl ?_
    refine rn_plain ?_
    repeat (first | refine pl_pure hT rfl rfl rfl ?_)
    refine pl_val _ rfl rfl (val_indexArr p.toNat hT rfl rfl rfl rfl (by omega) (by omega) w3) ?_
    have h8 := hP p.toNat
    refine pl_val (.agg (ints (P p.toNat)).toArray) rfl rfl (val_load _ hT rfl rfl (by rw [ints_length, h8]; rfl) ((hk3.blk hv (by simp)).range (by rw [ints_length, h8, Nat.zero_add]; exact v_atPp hP (by omega)))) ?_
    refine pl_op rfl rfl (opTo_store _ rfl rfl rfl rfl (by rw [ints_length, h8]; decide +kernel) hx3 (by rw [ints_length, h8]; decide) (ints_one _) ?_)
    rw [splice_all (by rw [ints_length, h8]; rfl)]
    refine pl_nil ?_
    refine rn_sub ?_ (hjoin _ _ ⟨rfl, hk3.setRow x _ (.inr hle), by rw [hgoal, hhp, if_pos rfl]; exact hx3.set _⟩)
    exact ⟨rfl, rfl, rfl, rfl, trivial⟩
  | false =>
    have hz : readS S p = z8 := by rw [hgoal, hhp]; rfl
    by_cases h0 : 0 ≤ p
    · have h14 : ¬ p < 14 := fun h => by simp [hasP, h0, h] at hhp
      refine pl_val (.bool true) rfl rfl (val_int .i64 _ 0 _ rfl rfl rfl (by simp [intOp]; omega) w3) ?_
      repeat (first | refine pl_pure hT rfl rfl rfl ?_)
      refine pl_val (.bool false) rfl rfl (val_int .i64 _ 14 _ rfl rfl rfl (by simp [intOp]; omega) w3) ?_
      repeat (first | refine pl_pure hT rfl rfl rfl ?_ | refine pl_nil ?_)
      refine rn_false rfl ?_
      refine rn_skip ?_
      refine rn_sub ?_ (hjoin _ w3 ⟨rfl, hk3, by rw [hz]; exact hx3⟩)
      exact ⟨rfl, rfl, rfl, rfl, trivial⟩
    · refine pl_val (.bool false) rfl rfl (val_int .i64 _ 0 _ rfl rfl rfl (by simp [intOp]; omega) w3) ?_
      repeat (first | refine pl_pure hT rfl rfl rfl ?_ | refine pl_not rfl rfl ?_ | refine pl_nil ?_)
      refine rn_false rfl ?_
      refine rn_skip ?_
      refine rn_sub ?_ (hjoin _ w3 ⟨rfl, hk3, by rw [hz]; exact hx3⟩)
      exact ⟨rfl, rfl, rfl, rfl, trivial⟩
end E
end Go.Proofs.Ytcecheleagljgaa
