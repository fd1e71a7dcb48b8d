/- Contracts of package store that read: Has, Open, held, find, Gen, Read. -/
import Derived.Test.YtcnjmjdnlhiflabSect
namespace Go.Proofs.Ytcnjmjdnlhiflab
set_option maxRecDepth 20000
namespace E
open Go.Proofs

abbrev z8 : List Int := List.replicate 8 0
def hd (l : List Int) : Int := l.headD 0

/-- There is such a page. -/
def hasP (i : Int) : Bool := decide (0 ≤ i) && decide (i < 14)

/-- What a sector that is led to holds. -/
def heldS (S : List Int) (at_ : Int) : List Int := if at_ = 0 ∨ hasB at_ = false then z8 else sector S at_.toNat

def rootMax (S : List Int) : Nat → List Int
  | 0 => z8
  | j + 1 => if hd (sector S j) > hd (rootMax S j) then sector S j else rootMax S j
/-- The root that leads. -/
def lastRoot (S : List Int) : List Int := rootMax S 2
def genS (S : List Int) : Int := hd (lastRoot S)
def tabS (S : List Int) : List Int := ((lastRoot S).drop 1).take 2
def pgS (S : List Int) : List Int := (heldS S ((tabS S).getD 0 0) ++ heldS S ((tabS S).getD 1 0)).take 14
/-- A state, as it lies in memory. -/
def stS (S : List Int) : List Int := genS S :: (tabS S ++ pgS S)
def readS (S : List Int) (i : Int) : List Int := if hasP i then heldS S ((pgS S).getD i.toNat 0) else z8

theorem heldS_length {S : List Int} (hS : S.length = 272) (a : Int) : (heldS S a).length = 8 := by
  unfold heldS
  split
  · simp [z8]
  · rename_i h
    have h2 : hasB a = true := by
      rcases hb : hasB a with _ | _
      · exact absurd (.inr hb) h
      · rfl
    simp [hasB] at h2
    exact sector_length hS (by omega)
theorem rootMax_length {S : List Int} (hS : S.length = 272) : ∀ j, j ≤ 34 → (rootMax S j).length = 8
  | 0, _ => by simp [rootMax, z8]
  | j + 1, h => by
    unfold rootMax
    split
    · exact sector_length hS (by omega)
    · exact rootMax_length hS j (by omega)
theorem lastRoot_length {S : List Int} (hS : S.length = 272) : (lastRoot S).length = 8 := rootMax_length hS 2 (by decide)
theorem tabS_length {S : List Int} (hS : S.length = 272) : (tabS S).length = 2 := by simp [tabS, lastRoot_length hS]
theorem pgS_length {S : List Int} (hS : S.length = 272) : (pgS S).length = 14 := by simp [pgS, heldS_length hS]
theorem stS_length {S : List Int} (hS : S.length = 272) : (stS S).length = 17 := by simp [stS, tabS_length hS, pgS_length hS]
theorem readS_length {S : List Int} (hS : S.length = 272) (i : Int) : (readS S i).length = 8 := by
  unfold readS
  split
  · exact heldS_length hS _
  · simp [z8]

theorem list2 {l : List Int} (h : l.length = 2) : ∃ a b, l = [a, b] := by
  match l, h with
  | [a, b], _ => exact ⟨a, b, rfl⟩

theorem hasP_ret (i : Int) (w : World) : Ret Try.prog 28 [.int .i64 i] w fun v w' => v = .bool (hasP i) ∧ w' = w := by
  refine ret_of 9 Try.func28 rfl rfl (by simp) ?_
  repeat (first | refine pl_pure hT rfl rfl rfl ?_ | refine pl_nil ?_ | refine rn_seq ?_ | refine rn_plain ?_ | refine rn_block ?_ | refine rn_inBlock ?_ | refine rn_skip ?_ | refine rn_true rfl ?_ | refine rn_false rfl ?_ | refine rn_exit rfl ?_ | refine pl_not rfl rfl ?_)
  by_cases h0 : 0 ≤ i
  · refine pl_val (.bool true) rfl rfl (val_int .i64 i 0 _ rfl rfl rfl (by simp [intOp, h0]) w) ?_
    repeat (first | refine pl_pure hT rfl rfl rfl ?_ | refine pl_nil ?_ | refine rn_seq ?_ | refine rn_plain ?_ | refine rn_block ?_ | refine rn_inBlock ?_ | refine rn_skip ?_ | refine rn_true rfl ?_ | refine rn_false rfl ?_ | refine rn_exit rfl ?_ | refine pl_not rfl rfl ?_)
    refine pl_val (.bool (decide (i < 14))) rfl rfl (val_int .i64 i 14 _ rfl rfl rfl (by simp [intOp]) w) ?_
    repeat (first | refine pl_pure hT rfl rfl rfl ?_ | refine pl_nil ?_ | refine rn_seq ?_ | refine rn_plain ?_ | refine rn_block ?_ | refine rn_inBlock ?_ | refine rn_skip ?_ | refine rn_true rfl ?_ | refine rn_false rfl ?_ | refine rn_exit rfl ?_ | refine pl_not rfl rfl ?_)
    refine rn_ret Try.func28 (.inl ⟨_, rfl, rfl⟩) ⟨?_, rfl⟩
    simp [hasP, h0]
  · refine pl_val (.bool false) rfl rfl (val_int .i64 i 0 _ rfl rfl rfl (by simp [intOp, h0]) w) ?_
    repeat (first | refine pl_pure hT rfl rfl rfl ?_ | refine pl_nil ?_ | refine rn_seq ?_ | refine rn_plain ?_ | refine rn_block ?_ | refine rn_inBlock ?_ | refine rn_skip ?_ | refine rn_true rfl ?_ | refine rn_false rfl ?_ | refine rn_exit rfl ?_ | refine pl_not rfl rfl ?_)
    refine rn_ret Try.func28 (.inl ⟨_, rfl, rfl⟩) ⟨?_, rfl⟩
    simp [hasP, h0]

theorem held_ret {B : Nat} {w : World} {g cap : Nat} {S : List Int} (ho : w.ownsRow B 37 8 (.slice (some ⟨g, 0, none⟩) 34 cap) 34 (ints S)) (hS : S.length = 272) (a : Int) :
    Ret Try.prog 38 [.slice (some ⟨g, 0, none⟩) 34 cap, .int .i64 a] w fun v w' => v = .agg (ints (heldS S a)).toArray ∧ Keep [] w w' := by
  refine ret_of 17 Try.func38 rfl rfl (by simp) ?_
  repeat (first | refine pl_pure hT rfl rfl rfl ?_ | refine pl_nil ?_ | refine rn_seq ?_ | refine rn_plain ?_ | refine rn_block ?_ | refine rn_inBlock ?_ | refine rn_skip ?_ | refine rn_true rfl ?_ | refine rn_false rfl ?_ | refine rn_exit rfl ?_ | refine pl_not rfl rfl ?_)
  refine pl_op rfl rfl (opTo_alloc _ rfl zero_words ?_)
  have hlt : g < w.heap.size := (ho.lt g rfl).2
  have hr := Blk.new w (ints (List.replicate 8 0)) 37
  have hk1 : Keep [] w (w.alloc (.cells (ints (List.replicate 8 0)).toArray 37)) := (Keep.refl _ _).alloc _
  have ho1 := hk1.owns ho (by simp)
  generalize (w.alloc (.cells (ints (List.replicate 8 0)).toArray 37)) = w1 at *
  repeat (first | refine pl_pure hT rfl rfl rfl ?_ | refine pl_nil ?_ | refine rn_inBlock ?_ | refine rn_skip ?_ | refine rn_true rfl ?_ | refine rn_false rfl ?_ | refine rn_exit rfl ?_)
  refine rn_seq ?_
  refine rn_seq ?_
  refine rn_with (fun σ w' => w' = w1 ∧ σ = [(0, .slice (some ⟨g, 0, none⟩) 34 cap), (1, .int .i64 a), (4, .pointer (some ⟨w.heap.size, 0, none⟩)), (11, .bool (decide (a = 0 ∨ hasB a = false)))]) ?_ ?_
  · rintro σ w2 ⟨rfl, rfl⟩
    by_cases hout : a = 0 ∨ hasB a = false
    · rw [decide_eq_true hout]
      repeat (first | refine pl_pure hT rfl rfl rfl ?_ | refine pl_nil ?_ | refine rn_seq ?_ | refine rn_plain ?_ | refine rn_block ?_ | refine rn_inBlock ?_ | refine rn_skip ?_ | refine rn_true rfl ?_ | refine rn_false rfl ?_ | refine rn_exit rfl ?_ | refine pl_not rfl rfl ?_)
      refine pl_val _ rfl rfl (val_build _ rfl rfl built_words0 w2) ?_
      refine pl_op rfl rfl (opTo_store _ rfl rfl rfl rfl (by kernel_rfl) hr (by simp [ints]) (ints_one _) ?_)
      rw [splice_all rfl]
      repeat (first | refine pl_pure hT rfl rfl rfl ?_ | refine pl_nil ?_ | refine rn_seq ?_ | refine rn_plain ?_ | refine rn_block ?_ | refine rn_inBlock ?_ | refine rn_skip ?_ | refine rn_true rfl ?_ | refine rn_false rfl ?_ | refine rn_exit rfl ?_ | refine pl_not rfl rfl ?_)
      refine rn_ret Try.func38 (.inr (.inr (.inl ⟨_, _, _, rfl, rfl, loadVar_agg hT (cs := ints (List.replicate 8 0)) rfl ((hr.set _).range (by simp))⟩))) ⟨?_, hk1.setRow _ _ (.inr (Nat.le_refl _))⟩
      rw [heldS, if_pos hout]
    · rw [decide_eq_false hout]
      repeat (first | refine pl_pure hT rfl rfl rfl ?_ | refine pl_nil ?_ | refine rn_seq ?_ | refine rn_plain ?_ | refine rn_block ?_ | refine rn_inBlock ?_ | refine rn_skip ?_ | refine rn_true rfl ?_ | refine rn_false rfl ?_ | refine rn_exit rfl ?_ | refine pl_not rfl rfl ?_)
      have hb : hasB a = true := by
        rcases hb : hasB a with _ | _
        · exact absurd (.inr hb) hout
        · rfl
      have hi : 0 ≤ a ∧ a < 34 := by simpa [hasB] using hb
      refine pl_val _ rfl rfl (val_index a.toNat hT rfl rfl rfl rfl (by omega) (by omega) w2) ?_
      have h8 : (sector S a.toNat).length = 8 := sector_length hS (by omega)
      refine pl_val (.agg (ints (sector S a.toNat)).toArray) rfl rfl (val_load _ hT rfl rfl (by rw [ints_length, h8]; rfl) (sure_at ho1 hS (by omega))) ?_
      refine pl_op rfl rfl (opTo_store _ rfl rfl rfl rfl (by rw [ints_length, h8]; decide +kernel) hr (by rw [ints_length, h8]; decide) (ints_one _) ?_)
      rw [splice_all (by rw [ints_length, h8]; rfl)]
      repeat (first | refine pl_pure hT rfl rfl rfl ?_ | refine pl_nil ?_ | refine rn_seq ?_ | refine rn_plain ?_ | refine rn_block ?_ | refine rn_inBlock ?_ | refine rn_skip ?_ | refine rn_true rfl ?_ | refine rn_false rfl ?_ | refine rn_exit rfl ?_ | refine pl_not rfl rfl ?_)
      refine rn_ret Try.func38 (.inr (.inr (.inl ⟨_, _, _, rfl, rfl, loadVar_agg hT (cs := ints (sector S a.toNat)) (by rw [ints_length, h8]; rfl) ((hr.set _).range (by simp))⟩))) ⟨?_, hk1.setRow _ _ (.inr (Nat.le_refl _))⟩
      rw [heldS, if_neg hout]
  intro hjoin
  refine rn_plain ?_
  by_cases h0 : a = 0
  · refine pl_pure hT rfl rfl rfl ?_
    refine pl_val (.bool true) rfl rfl (val_int .i64 a 0 _ rfl rfl rfl (by simp [intOp, h0]) w1) ?_
    repeat (first | refine pl_pure hT rfl rfl rfl ?_ | refine pl_nil ?_ | refine pl_not rfl rfl ?_)
    refine rn_sub ?_ (hjoin _ w1 ⟨rfl, rfl⟩)
    rw [decide_eq_true (.inl h0)]
    exact ⟨rfl, rfl, rfl, rfl, trivial⟩
  · refine pl_pure hT rfl rfl rfl ?_
    refine pl_val (.bool false) rfl rfl (val_int .i64 a 0 _ rfl rfl rfl (by simp [intOp, h0]) w1) ?_
    repeat (first | refine pl_pure hT rfl rfl rfl ?_)
    refine pl_op rfl rfl (opTo_call rfl rfl rfl rfl (by decide +kernel) ((has_ret a _).mono ?_))
    rintro v w1 ⟨rfl, rfl⟩
    repeat (first | refine pl_pure hT rfl rfl rfl ?_ | refine pl_nil ?_)
    refine rn_sub ?_ (hjoin _ w1 ⟨rfl, rfl⟩)
    rw [show decide (a = 0 ∨ hasB a = false) = !hasB a by cases hasB a <;> simp [h0]]
    exact ⟨rfl, rfl, rfl, rfl, trivial⟩
end E
end Go.Proofs.Ytcnjmjdnlhiflab
