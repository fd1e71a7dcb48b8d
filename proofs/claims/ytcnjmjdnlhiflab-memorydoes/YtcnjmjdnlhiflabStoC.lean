/- The contracts of store's Open, Gen, Read, Check. -/
import Derived.Test.YtcnjmjdnlhiflabStoB
namespace Go.Proofs.Ytcnjmjdnlhiflab
set_option maxRecDepth 20000
namespace E
open Go.Proofs

/-- A store in memory, on the disk at d. -/
def StoreV (w : World) (s d : Nat) : Prop := Blk w s [.pointer (some ⟨d, 0, none⟩)] 75

theorem built_store (d : Nat) : Try.prog.built 75 [(0, Value.pointer (some ⟨d, 0, none⟩))] = some [Value.pointer (some ⟨d, 0, none⟩)].toArray := by kernel_rfl

theorem open_ret (d : Nat) (w : World) : Ret Try.prog 11 [.pointer (some ⟨d, 0, none⟩)] w fun v w' => v = .pointer (some ⟨w.heap.size, 0, none⟩) ∧ StoreV w' w.heap.size d ∧ Keep [] w w' := by
  refine ret_of 6 Try.func11 rfl rfl (by simp) ?_
  repeat (first | refine pl_pure hT rfl rfl rfl ?_ | refine pl_nil ?_ | refine rn_seq ?_ | refine rn_plain ?_ | refine rn_block ?_ | refine rn_inBlock ?_ | refine rn_skip ?_ | refine rn_true rfl ?_ | refine rn_false rfl ?_ | refine rn_exit rfl ?_ | refine pl_not rfl rfl ?_)
  refine pl_val _ rfl rfl (val_build _ rfl rfl (built_store d) w) ?_
  refine pl_op rfl rfl (opTo_box _ rfl rfl rfl ?_)
  repeat (first | refine pl_pure hT rfl rfl rfl ?_ | refine pl_nil ?_ | refine rn_seq ?_ | refine rn_plain ?_ | refine rn_block ?_ | refine rn_inBlock ?_ | refine rn_skip ?_ | refine rn_true rfl ?_ | refine rn_false rfl ?_ | refine rn_exit rfl ?_ | refine pl_not rfl rfl ?_)
  exact rn_ret Try.func11 (.inl ⟨_, rfl, rfl⟩) ⟨rfl, Blk.new w _ _, (Keep.refl _ _).alloc _⟩

theorem owns_cap {w : World} {B e size n g cap : Nat} {xs : List Value} (h : w.ownsRow B e size (.slice (some ⟨g, 0, none⟩) n cap) n xs) : n ≤ cap := by
  rcases h.2 with ⟨h1, h2⟩ | ⟨g', cap', cur, h1, _, _, hc, _⟩
  · cases h1
  · injection h1 with e1 e2 e3
    subst e3
    first | exact hc | omega

theorem gen_ret {B : Nat} {w : World} {s d : Nat} {S : List Int} {L : List Wr} {wv : Value} (hs : StoreV w s d) (h : DiskV B w d S L wv) :
    Ret Try.prog 14 [.pointer (some ⟨s, 0, none⟩)] w fun v w' => v = .int .i64 (genS S) ∧ Keep [] w w' := by
  refine ret_of 10 Try.func14 rfl rfl (by simp) ?_
  repeat (first | refine pl_pure hT rfl rfl rfl ?_ | refine pl_nil ?_ | refine rn_seq ?_ | refine rn_plain ?_ | refine rn_block ?_ | refine rn_inBlock ?_ | refine rn_skip ?_ | refine rn_true rfl ?_ | refine rn_false rfl ?_ | refine rn_exit rfl ?_ | refine pl_not rfl rfl ?_)
  refine pl_val (.pointer (some ⟨d, 0, none⟩)) rfl rfl (val_load1 hT rfl rfl rfl (hs.cell rfl)) ?_
  refine pl_op rfl rfl (opTo_call rfl rfl rfl rfl (by decide +kernel) ((sure_ret h).mono ?_))
  rintro v w1 ⟨g, cap, rfl, ho, hk⟩
  refine pl_op rfl rfl (opTo_call rfl rfl rfl rfl (by decide +kernel) ((find_ret ho h.len (by have := owns_cap ho; omega)).mono ?_))
  rintro v w2 ⟨rfl, hk2⟩
  refine pl_val (.int .i64 (genS S)) rfl rfl (val_field1 0 _ rfl rfl (by decide +kernel) rfl w2) ?_
  repeat (first | refine pl_pure hT rfl rfl rfl ?_ | refine pl_nil ?_ | refine rn_seq ?_ | refine rn_plain ?_ | refine rn_block ?_ | refine rn_inBlock ?_ | refine rn_skip ?_ | refine rn_true rfl ?_ | refine rn_false rfl ?_ | refine rn_exit rfl ?_ | refine pl_not rfl rfl ?_)
  exact rn_ret Try.func14 (.inl ⟨_, rfl, rfl⟩) ⟨rfl, hk.tr0 hk2⟩

theorem stS_pages {S : List Int} (hS : S.length = 272) : ((ints (stS S)).drop 3).take 14 = ints (pgS S) := by
  obtain ⟨a, b, h⟩ := list2 (tabS_length hS)
  have hp := pgS_length hS
  simp only [stS, h]
  simp [ints, hp, List.take_of_length_le]

theorem sread_ret {B : Nat} {w : World} {s d : Nat} {S : List Int} {L : List Wr} {wv : Value} (hs : StoreV w s d) (h : DiskV B w d S L wv) (i : Int) :
    Ret Try.prog 13 [.pointer (some ⟨s, 0, none⟩), .int .i64 i] w fun v w' => v = .agg (ints (readS S i)).toArray ∧ Keep [] w w' := by
  refine ret_of 22 Try.func13 rfl rfl (by simp) ?_
  repeat (first | refine pl_pure hT rfl rfl rfl ?_ | refine pl_nil ?_ | refine rn_seq ?_ | refine rn_plain ?_ | refine rn_block ?_ | refine rn_inBlock ?_ | refine rn_skip ?_ | refine rn_true rfl ?_ | refine rn_false rfl ?_ | refine rn_exit rfl ?_ | refine pl_not rfl rfl ?_)
  refine pl_op rfl rfl (opTo_alloc _ rfl zero_words ?_)
  have hr := Blk.new w (ints (List.replicate 8 0)) 37
  have hk1 : Keep [] w (w.alloc (.cells (ints (List.replicate 8 0)).toArray 37)) := (Keep.refl _ _).alloc _
  have h1 := h.keep hk1 (by simp)
  have hs1 := hk1.blk hs (by simp)
  generalize (w.alloc (.cells (ints (List.replicate 8 0)).toArray 37)) = w1 at *
  repeat (first | refine pl_pure hT rfl rfl rfl ?_ | refine pl_nil ?_ | refine rn_seq ?_ | refine rn_plain ?_ | refine rn_block ?_ | refine rn_inBlock ?_ | refine rn_skip ?_ | refine rn_true rfl ?_ | refine rn_false rfl ?_ | refine rn_exit rfl ?_ | refine pl_not rfl rfl ?_)
  refine pl_op rfl rfl (opTo_call rfl rfl rfl rfl (by decide +kernel) ((hasP_ret i _).mono ?_))
  rintro v w1 ⟨rfl, rfl⟩
  cases hb : hasP i with
  | false =>
    repeat (first | refine pl_pure hT rfl rfl rfl ?_ | refine pl_nil ?_ | refine rn_seq ?_ | refine rn_plain ?_ | refine rn_block ?_ | refine rn_inBlock ?_ | refine rn_skip ?_ | refine rn_true rfl ?_ | refine rn_false rfl ?_ | refine rn_exit rfl ?_ | refine pl_not rfl rfl ?_)
    refine pl_val _ rfl rfl (val_build _ rfl rfl built_words0 w1) ?_
    refine pl_op rfl rfl (opTo_store _ rfl rfl rfl rfl (by kernel_rfl) hr (by simp [ints]) (ints_one _) ?_)
    rw [splice_all rfl]
    repeat (first | refine pl_pure hT rfl rfl rfl ?_ | refine pl_nil ?_ | refine rn_seq ?_ | refine rn_plain ?_ | refine rn_block ?_ | refine rn_inBlock ?_ | refine rn_skip ?_ | refine rn_true rfl ?_ | refine rn_false rfl ?_ | refine rn_exit rfl ?_ | refine pl_not rfl rfl ?_)
    refine rn_ret Try.func13 (.inr (.inr (.inl ⟨_, _, _, rfl, rfl, loadVar_agg hT (cs := ints (List.replicate 8 0)) rfl ((hr.set _).range (by simp))⟩))) ⟨?_, hk1.setRow _ _ (.inr (Nat.le_refl _))⟩
    simp [readS, hb]
    rfl
  | true =>
    have hi : 0 ≤ i ∧ i < 14 := by simpa [hasP] using hb
    repeat (first | refine pl_pure hT rfl rfl rfl ?_ | refine pl_nil ?_ | refine rn_seq ?_ | refine rn_plain ?_ | refine rn_block ?_ | refine rn_inBlock ?_ | refine rn_skip ?_ | refine rn_true rfl ?_ | refine rn_false rfl ?_ | refine rn_exit rfl ?_ | refine pl_not rfl rfl ?_)
    refine pl_val (.pointer (some ⟨d, 0, none⟩)) rfl rfl (val_load1 hT rfl rfl rfl (hs1.cell rfl)) ?_
    refine pl_op rfl rfl (opTo_call rfl rfl rfl rfl (by decide +kernel) ((sure_ret h1).mono ?_))
    rintro v w2 ⟨g, cap, rfl, ho, hk2⟩
    repeat (first | refine pl_pure hT rfl rfl rfl ?_ | refine pl_nil ?_ | refine rn_seq ?_ | refine rn_plain ?_ | refine rn_block ?_ | refine rn_inBlock ?_ | refine rn_skip ?_ | refine rn_true rfl ?_ | refine rn_false rfl ?_ | refine rn_exit rfl ?_ | refine pl_not rfl rfl ?_)
    refine pl_op rfl rfl (opTo_call rfl rfl rfl rfl (by decide +kernel) ((find_ret ho h.len (by have := owns_cap ho; omega)).mono ?_))
    rintro v w3 ⟨rfl, hk3⟩
    refine pl_val (.agg (ints (pgS S)).toArray) rfl rfl (val_fieldAgg (m := 14) 3 _ _ rfl rfl (by decide +kernel) (stS_pages h.len) w3) ?_
    repeat (first | refine pl_pure hT rfl rfl rfl ?_ | refine pl_nil ?_ | refine rn_seq ?_ | refine rn_plain ?_ | refine rn_block ?_ | refine rn_inBlock ?_ | refine rn_skip ?_ | refine rn_true rfl ?_ | refine rn_false rfl ?_ | refine rn_exit rfl ?_ | refine pl_not rfl rfl ?_)
    have hp14 := pgS_length h.len
    refine pl_val (.int .i64 ((pgS S).getD i.toNat 0)) rfl rfl (val_at (pgS S) i.toNat arrP rfl rfl rfl (by omega) (by omega) (by rw [List.getD_eq_getElem?_getD, List.getElem?_eq_getElem (by omega)]; rfl) w3) ?_
    refine pl_op rfl rfl (opTo_call rfl rfl rfl rfl (by decide +kernel) ((held_ret (hk3.owns ho (by simp)) h.len _).mono ?_))
    rintro v w4 ⟨rfl, hk4⟩
    have hk14 := (hk2.tr0 hk3).tr0 hk4
    have hr4 := hk14.blk hr (by simp)
    have hlen : (ints (heldS S ((pgS S).getD i.toNat 0))).length = 8 := by rw [ints_length, heldS_length h.len]
    refine pl_op rfl rfl (opTo_store _ rfl rfl rfl rfl (by rw [hlen]; decide +kernel) hr4 (by rw [hlen]; decide) (ints_one _) ?_)
    rw [splice_all (by rw [hlen]; rfl)]
    repeat (first | refine pl_pure hT rfl rfl rfl ?_ | refine pl_nil ?_ | refine rn_seq ?_ | refine rn_plain ?_ | refine rn_block ?_ | refine rn_inBlock ?_ | refine rn_skip ?_ | refine rn_true rfl ?_ | refine rn_false rfl ?_ | refine rn_exit rfl ?_ | refine pl_not rfl rfl ?_)
    refine rn_ret Try.func13 (.inr (.inr (.inl ⟨_, _, _, rfl, rfl, loadVar_agg hT (cs := ints (heldS S ((pgS S).getD i.toNat 0))) (by rw [hlen]; rfl) ((hr4.set _).range (by simp))⟩))) ⟨?_, (hk1.tr0 hk14).setRow _ _ (.inr (Nat.le_refl _))⟩
    simp [readS, hb]
end E
end Go.Proofs.Ytcnjmjdnlhiflab
