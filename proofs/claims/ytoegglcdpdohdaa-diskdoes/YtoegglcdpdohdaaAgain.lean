/- The walk of DiskAgain: whatever the steps and the masks, it returns true, and turns nothing that was there. -/
import Derived.Test.YtoegglcdpdohdaaArgD
namespace Go.Proofs.Ytoegglcdpdohdaa
namespace E
open Go.Proofs

def sector (S : List Int) (k : Nat) : List Int := (S.drop (k * 8)).take 8
theorem sector_length {S : List Int} (h : S.length = 272) {k : Nat} (hk : k < 34) : (sector S k).length = 8 := by simp [sector, h]; omega

theorem settled_nil (stays : Nat → Bool) (S : List Int) : settled stays [] S = S := rfl

theorem sure_at {B : Nat} {w : World} {g cap : Nat} {S : List Int} (h : w.ownsRow B 32 8 (.slice (some ⟨g, 0, none⟩) 34 cap) 34 (ints S)) (hS : S.length = 272) {k : Nat} (hk : k < 34) : w.rangeAt g (0 + k * 8) (ints (sector S k)) := by
  refine owns_range h ?_
  rw [Nat.zero_add, ints_length, sector_length hS hk]
  simp [sector, ints, List.map_take, List.map_drop]

theorem readD_nil {S : List Int} {k : Nat} (hk : k < 34) : readD S [] (k : Nat) = sector S k := by
  have hb : hasB ((k : Nat) : Int) = true := by simp [hasB]; omega
  simp [readD, hb, lastOf, sector]

theorem readD_out {S : List Int} {L : List Wr} {i : Int} (h : hasB i = false) : readD S L i = w0 := by simp [readD, h, w0]

theorem arrW : arrInt Try.prog 32 8 = true := by decide +kernel

theorem again_ret {w : World} {lv : Value} {st : List DStep} (hst : ArgS w lv st) (mask again : Int) :
    Ret Try.prog 5 [lv, .int .u64 mask, .int .u64 again] w fun v w' => v = .bool true ∧ Keep [] w w' := by
  refine ret_of 134 Try.func5 rfl rfl (by simp) ?_
  repeat (first | refine pl_pure hT rfl rfl rfl ?_ | refine pl_nil ?_ | refine rn_seq ?_ | refine rn_plain ?_ | refine rn_block ?_ | refine rn_inBlock ?_ | refine rn_skip ?_ | refine rn_true rfl ?_ | refine rn_false rfl ?_ | refine rn_exit rfl ?_ | refine pl_not rfl rfl ?_)
  refine pl_op rfl rfl (opTo_call rfl rfl rfl rfl (by decide +kernel) ((begun_ret w).mono ?_))
  rintro v w1 ⟨rfl, hk1⟩
  repeat (first | refine pl_pure hT rfl rfl rfl ?_ | refine pl_nil ?_ | refine rn_seq ?_ | refine rn_plain ?_ | refine rn_block ?_ | refine rn_inBlock ?_ | refine rn_skip ?_ | refine rn_true rfl ?_ | refine rn_false rfl ?_ | refine rn_exit rfl ?_ | refine pl_not rfl rfl ?_)
  obtain ⟨la, lcap, hlv, _⟩ := hst.ex
  refine pl_val (.int .i64 st.length) rfl rfl (val_pure hT (by subst hlv; rfl) w1) ?_
  by_cases hbig : 300 < st.length
  · refine pl_val (.bool true) rfl rfl (val_int .i64 _ 300 _ rfl rfl rfl (by simp [intOp]; omega) w1) ?_
    repeat (first | refine pl_pure hT rfl rfl rfl ?_ | refine pl_nil ?_ | refine rn_seq ?_ | refine rn_plain ?_ | refine rn_block ?_ | refine rn_inBlock ?_ | refine rn_skip ?_ | refine rn_true rfl ?_ | refine rn_false rfl ?_ | refine rn_exit rfl ?_ | refine pl_not rfl rfl ?_)
    exact rn_ret Try.func5 (.inl ⟨_, rfl, rfl⟩) ⟨rfl, hk1⟩
  refine pl_val (.bool false) rfl rfl (val_int .i64 _ 300 _ rfl rfl rfl (by simp [intOp]; omega) w1) ?_
  repeat (first | refine pl_pure hT rfl rfl rfl ?_ | refine pl_nil ?_ | refine rn_seq ?_ | refine rn_plain ?_ | refine rn_block ?_ | refine rn_inBlock ?_ | refine rn_skip ?_ | refine rn_true rfl ?_ | refine rn_false rfl ?_ | refine rn_exit rfl ?_ | refine pl_not rfl rfl ?_)
  refine pl_op rfl rfl (opTo_call rfl rfl rfl rfl (by decide +kernel) ((new_ret w1).mono ?_))
  rintro v w2 ⟨rfl, h2, hk2⟩
  have hB : w.heap.size ≤ w1.heap.size := hk1.size
  have hkw2 := hk1.tr0 hk2
  generalize w1.heap.size = B at *
  repeat (first | refine pl_pure hT rfl rfl rfl ?_ | refine pl_nil ?_ | refine rn_seq ?_ | refine rn_plain ?_ | refine rn_block ?_ | refine rn_inBlock ?_ | refine rn_skip ?_ | refine rn_true rfl ?_ | refine rn_false rfl ?_ | refine rn_exit rfl ?_ | refine pl_not rfl rfl ?_)
  refine rn_ind (fun m σ w' => ∃ j S L wv, m = st.length - j ∧ j ≤ st.length ∧ L.length ≤ j ∧ σ = [(0, lv), (1, .int .u64 mask), (2, .int .u64 again), (7, .pointer (some ⟨B, 0, none⟩)), (8, .int .i64 (j : Nat))] ∧ DiskV B w' B S L wv ∧ Keep [] w w')
    (st.length - 0) _ ?_ ⟨0, _, _, _, rfl, Nat.zero_le _, Nat.le_refl _, rfl, h2, hkw2⟩ ?_
  · exact ⟨rfl, rfl, rfl, rfl, rfl, trivial⟩
  clear h2 hkw2 hk2 hk1
  rintro m σ w3 ih ⟨j, S, L, wv, hm, hj, hLj, rfl, h3, hk3⟩
  repeat (first | refine pl_pure hT rfl rfl rfl ?_ | refine pl_nil ?_ | refine rn_seq ?_ | refine rn_plain ?_ | refine rn_block ?_ | refine rn_inBlock ?_ | refine rn_skip ?_ | refine rn_true rfl ?_ | refine rn_false rfl ?_ | refine rn_exit rfl ?_ | refine pl_not rfl rfl ?_)
  refine pl_val (.int .i64 st.length) rfl rfl (val_pure hT (by subst hlv; rfl) w3) ?_
  rcases Nat.lt_or_ge j st.length with hlt | hge
  · refine pl_val (.bool true) rfl rfl (val_int .i64 _ _ _ rfl rfl rfl (by simp [intOp, hlt]) w3) ?_
    obtain ⟨s, hs⟩ : ∃ s, st[j]? = some s := ⟨st[j], List.getElem?_eq_getElem hlt⟩
    obtain ⟨b, q, cap, hlv', hbl0, hr0⟩ := hst.at hs
    have hr := hk3.range hr0 hbl0 (by simp)
    have hbl : b < w3.heap.size := Nat.lt_of_lt_of_le hbl0 hk3.size
    have hw8 := hst.wf s (List.mem_of_getElem? hs)
    have hnext : ∀ (w4 : World) (S' : List Int) (L' : List Wr) (wv' : Value), DiskV B w4 B S' L' wv' → Keep [] w w4 → L'.length ≤ j + 1 →
        Rn _ _ _ _ _ [(0, lv), (1, .int .u64 mask), (2, .int .u64 again), (7, .pointer (some ⟨B, 0, none⟩)), (8, .int .i64 ((j + 1 : Nat) : Int))] w4 :=
      fun w4 S' L' wv' h4 hk4 hl4 => ih (st.length - (j + 1)) _ w4 (by omega) ⟨j + 1, S', L', wv', rfl, hlt, hl4, rfl, h4, hk4⟩
    clear ih
    repeat (first | refine pl_pure hT rfl rfl rfl ?_ | refine pl_nil ?_ | refine rn_seq ?_ | refine rn_plain ?_ | refine rn_block ?_ | refine rn_inBlock ?_ | refine rn_skip ?_ | refine rn_true rfl ?_ | refine rn_false rfl ?_ | refine rn_exit rfl ?_ | refine pl_not rfl rfl ?_)
    refine pl_val _ rfl rfl (val_index j hT rfl (by rw [hlv']; rfl) rfl rfl rfl hlt w3) ?_
    repeat (first | refine pl_pure hT rfl rfl rfl ?_ | refine pl_nil ?_ | refine rn_seq ?_ | refine rn_plain ?_ | refine rn_block ?_ | refine rn_inBlock ?_ | refine rn_skip ?_ | refine rn_true rfl ?_ | refine rn_false rfl ?_ | refine rn_exit rfl ?_ | refine pl_not rfl rfl ?_)
    refine pl_val (.int .i64 s.d) rfl rfl (val_load1 hT rfl rfl rfl (hr 0 _ rfl)) ?_
    repeat (first | refine pl_pure hT rfl rfl rfl ?_ | refine pl_nil ?_ | refine rn_seq ?_ | refine rn_plain ?_ | refine rn_block ?_ | refine rn_inBlock ?_ | refine rn_skip ?_ | refine rn_true rfl ?_ | refine rn_false rfl ?_ | refine rn_exit rfl ?_ | refine pl_not rfl rfl ?_)
    by_cases h0 : s.d = 0
    · refine pl_val (.bool true) rfl rfl (val_int .i64 _ _ _ rfl rfl rfl (by simp [intOp, h0]) w3) ?_
      repeat (first | refine pl_pure hT rfl rfl rfl ?_ | refine pl_nil ?_ | refine rn_seq ?_ | refine rn_plain ?_ | refine rn_block ?_ | refine rn_inBlock ?_ | refine rn_skip ?_ | refine rn_true rfl ?_ | refine rn_false rfl ?_ | refine rn_exit rfl ?_ | refine pl_not rfl rfl ?_)
      have hbfp : b ∉ fpD B wv := fun hm => by
        have := (h3.lt b hm).1
        omega
      have hS : w3.drew.rangeAt b (q + j * 11) (scell s) := hr
      refine rn_draw (fun w' => w'.rangeAt b (q + j * 11) (scell s)) [] hMix ?_
      refine dr_pure 0 hT rfl (by decide +kernel) rfl rfl rfl ?_
      refine dr_pure 1 hT rfl (by decide +kernel) rfl rfl rfl ?_
      refine dr_pure 2 hT rfl (by decide +kernel) rfl rfl rfl ?_
      refine dr_val 3 _ rfl (by decide +kernel) rfl rfl (fun w' _ => val_index j hT rfl (by rw [hlv']; rfl) rfl rfl rfl hlt w') hS ?_
      refine dr_pure 4 hT rfl (by decide +kernel) rfl rfl rfl ?_
      refine dr_val 5 (.int .i64 s.a) rfl (by decide +kernel) rfl rfl (fun w' hk => val_load1 hT rfl rfl rfl (hk 1 _ rfl)) hS ?_
      refine dr_pure 6 hT rfl (by decide +kernel) rfl rfl rfl ?_
      refine dr_pure 7 hT rfl (by decide +kernel) rfl rfl rfl ?_
      refine dr_val 8 _ rfl (by decide +kernel) rfl rfl (fun w' _ => val_index j hT rfl (by rw [hlv']; rfl) rfl rfl rfl hlt w') hS ?_
      refine dr_pure 9 hT rfl (by decide +kernel) rfl rfl rfl ?_
      refine dr_val 10 (.agg (ints s.ws).toArray) rfl (by decide +kernel) rfl rfl (fun w' hk => val_load _ hT rfl rfl (by rw [ints_length, hw8]; rfl) (range_sub hk 2 (by simp [scell]))) hS ?_
      have h3d : DiskV B w3.drew B S L wv := h3.keep ((Keep.refl [] _).drew) (by simp)
      refine dr_op 11 rfl (by decide +kernel) rfl rfl (opTo_call rfl rfl rfl rfl (by decide +kernel) ((write_ret h3d s.a (ws := s.ws) hw8 (by omega)).mono ?_))
      rintro v w4 ⟨rfl, wv', h4, hk4, hf4⟩
      refine ⟨fun _ => hk4.range hr hbl hbfp, ?_⟩
      refine dr_done (by decide +kernel) ?_
      repeat (first | refine pl_pure hT rfl rfl rfl ?_ | refine pl_nil ?_ | refine rn_seq ?_ | refine rn_plain ?_ | refine rn_block ?_ | refine rn_inBlock ?_ | refine rn_skip ?_ | refine rn_true rfl ?_ | refine rn_false rfl ?_ | refine rn_exit rfl ?_ | refine pl_not rfl rfl ?_)
      refine pl_val (.int .i64 ((j + 1 : Nat) : Int)) rfl rfl (val_int .i64 j 1 _ rfl rfl rfl (by simp only [intOp]; rw [wrap_i64 (by omega) (by omega)]; rfl) w4) ?_
      repeat (first | refine pl_pure hT rfl rfl rfl ?_ | refine pl_nil ?_ | refine rn_seq ?_ | refine rn_plain ?_ | refine rn_block ?_ | refine rn_inBlock ?_ | refine rn_skip ?_ | refine rn_true rfl ?_ | refine rn_false rfl ?_ | refine rn_exit rfl ?_ | refine pl_not rfl rfl ?_)
      refine rn_sub ?_ (hnext w4 _ _ wv' h4 ?_ ?_)
      · exact ⟨rfl, rfl, rfl, rfl, rfl, trivial⟩
      · exact (hk3.drew).trans hk4 fun k hk => .inr (by have := (h3.lt k hk).1; omega)
      · split
        · simp; omega
        · omega
    refine pl_val (.bool false) rfl rfl (val_int .i64 _ _ _ rfl rfl rfl (by simp [intOp, h0]) w3) ?_
    repeat (first | refine pl_pure hT rfl rfl rfl ?_ | refine pl_nil ?_ | refine rn_seq ?_ | refine rn_plain ?_ | refine rn_block ?_ | refine rn_inBlock ?_ | refine rn_skip ?_ | refine rn_true rfl ?_ | refine rn_false rfl ?_ | refine rn_exit rfl ?_ | refine pl_not rfl rfl ?_)
    by_cases h1 : s.d = 1
    · refine pl_val (.bool true) rfl rfl (val_int .i64 _ _ _ rfl rfl rfl (by simp [intOp, h1]) w3) ?_
      repeat (first | refine pl_pure hT rfl rfl rfl ?_ | refine pl_nil ?_ | refine rn_seq ?_ | refine rn_plain ?_ | refine rn_block ?_ | refine rn_inBlock ?_ | refine rn_skip ?_ | refine rn_true rfl ?_ | refine rn_false rfl ?_ | refine rn_exit rfl ?_ | refine pl_not rfl rfl ?_)
      refine pl_op rfl rfl (opTo_call rfl rfl rfl rfl (by decide +kernel) ((flush_ret h3 (by omega)).mono ?_))
      rintro v w4 ⟨rfl, h4, hk4⟩
      repeat (first | refine pl_pure hT rfl rfl rfl ?_ | refine pl_nil ?_ | refine rn_seq ?_ | refine rn_plain ?_ | refine rn_block ?_ | refine rn_inBlock ?_ | refine rn_skip ?_ | refine rn_true rfl ?_ | refine rn_false rfl ?_ | refine rn_exit rfl ?_ | refine pl_not rfl rfl ?_)
      refine pl_val (.int .i64 ((j + 1 : Nat) : Int)) rfl rfl (val_int .i64 j 1 _ rfl rfl rfl (by simp only [intOp]; rw [wrap_i64 (by omega) (by omega)]; rfl) w4) ?_
      repeat (first | refine pl_pure hT rfl rfl rfl ?_ | refine pl_nil ?_ | refine rn_seq ?_ | refine rn_plain ?_ | refine rn_block ?_ | refine rn_inBlock ?_ | refine rn_skip ?_ | refine rn_true rfl ?_ | refine rn_false rfl ?_ | refine rn_exit rfl ?_ | refine pl_not rfl rfl ?_)
      refine rn_sub ?_ (hnext w4 _ _ _ h4 (hk3.trans hk4 fun k hk => .inr (by simp at hk; omega)) (Nat.zero_le _))
      exact ⟨rfl, rfl, rfl, rfl, rfl, trivial⟩
    refine pl_val (.bool false) rfl rfl (val_int .i64 _ _ _ rfl rfl rfl (by simp [intOp, h1]) w3) ?_
    repeat (first | refine pl_pure hT rfl rfl rfl ?_ | refine pl_nil ?_ | refine rn_seq ?_ | refine rn_plain ?_ | refine rn_block ?_ | refine rn_inBlock ?_ | refine rn_skip ?_ | refine rn_true rfl ?_ | refine rn_false rfl ?_ | refine rn_exit rfl ?_ | refine pl_not rfl rfl ?_)
    by_cases h2 : s.d = 2
    · refine pl_val (.bool true) rfl rfl (val_int .i64 _ _ _ rfl rfl rfl (by simp [intOp, h2]) w3) ?_
      repeat (first | refine pl_pure hT rfl rfl rfl ?_ | refine pl_nil ?_ | refine rn_seq ?_ | refine rn_plain ?_ | refine rn_block ?_ | refine rn_inBlock ?_ | refine rn_skip ?_ | refine rn_true rfl ?_ | refine rn_false rfl ?_ | refine rn_exit rfl ?_ | refine pl_not rfl rfl ?_)
      refine pl_val _ rfl rfl (val_index j hT rfl (by rw [hlv']; rfl) rfl rfl rfl hlt w3) ?_
      repeat (first | refine pl_pure hT rfl rfl rfl ?_ | refine pl_nil ?_ | refine rn_seq ?_ | refine rn_plain ?_ | refine rn_block ?_ | refine rn_inBlock ?_ | refine rn_skip ?_ | refine rn_true rfl ?_ | refine rn_false rfl ?_ | refine rn_exit rfl ?_ | refine pl_not rfl rfl ?_)
      refine pl_val (.int .u64 s.m) rfl rfl (val_load1 hT rfl rfl rfl (hr 10 _ (by simp [scell, ints_length, hw8]))) ?_
      refine pl_op rfl rfl (opTo_call rfl rfl rfl rfl (by decide +kernel) ((crash_ret h3 (by omega) s.m).mono ?_))
      rintro v w4 ⟨rfl, h4, hk4⟩
      repeat (first | refine pl_pure hT rfl rfl rfl ?_ | refine pl_nil ?_ | refine rn_seq ?_ | refine rn_plain ?_ | refine rn_block ?_ | refine rn_inBlock ?_ | refine rn_skip ?_ | refine rn_true rfl ?_ | refine rn_false rfl ?_ | refine rn_exit rfl ?_ | refine pl_not rfl rfl ?_)
      refine pl_val (.int .i64 ((j + 1 : Nat) : Int)) rfl rfl (val_int .i64 j 1 _ rfl rfl rfl (by simp only [intOp]; rw [wrap_i64 (by omega) (by omega)]; rfl) w4) ?_
      repeat (first | refine pl_pure hT rfl rfl rfl ?_ | refine pl_nil ?_ | refine rn_seq ?_ | refine rn_plain ?_ | refine rn_block ?_ | refine rn_inBlock ?_ | refine rn_skip ?_ | refine rn_true rfl ?_ | refine rn_false rfl ?_ | refine rn_exit rfl ?_ | refine pl_not rfl rfl ?_)
      refine rn_sub ?_ (hnext w4 _ _ _ h4 (hk3.trans hk4 fun k hk => .inr (by simp at hk; omega)) (Nat.zero_le _))
      exact ⟨rfl, rfl, rfl, rfl, rfl, trivial⟩
    refine pl_val (.bool false) rfl rfl (val_int .i64 _ _ _ rfl rfl rfl (by simp [intOp, h2]) w3) ?_
    repeat (first | refine pl_pure hT rfl rfl rfl ?_ | refine pl_nil ?_ | refine rn_seq ?_ | refine rn_plain ?_ | refine rn_block ?_ | refine rn_inBlock ?_ | refine rn_skip ?_ | refine rn_true rfl ?_ | refine rn_false rfl ?_ | refine rn_exit rfl ?_ | refine pl_not rfl rfl ?_)
    refine pl_val (.int .i64 ((j + 1 : Nat) : Int)) rfl rfl (val_int .i64 j 1 _ rfl rfl rfl (by simp only [intOp]; rw [wrap_i64 (by omega) (by omega)]; rfl) w3) ?_
    repeat (first | refine pl_pure hT rfl rfl rfl ?_ | refine pl_nil ?_ | refine rn_seq ?_ | refine rn_plain ?_ | refine rn_block ?_ | refine rn_inBlock ?_ | refine rn_skip ?_ | refine rn_true rfl ?_ | refine rn_false rfl ?_ | refine rn_exit rfl ?_ | refine pl_not rfl rfl ?_)
    refine rn_sub ?_ (hnext w3 _ _ _ h3 hk3 (by omega))
    exact ⟨rfl, rfl, rfl, rfl, rfl, trivial⟩
  refine pl_val (.bool false) rfl rfl (val_int .i64 _ _ _ rfl rfl rfl (by simp [intOp]; omega) w3) ?_
  clear ih
  repeat (first | refine pl_pure hT rfl rfl rfl ?_ | refine pl_nil ?_ | refine rn_seq ?_ | refine rn_plain ?_ | refine rn_block ?_ | refine rn_inBlock ?_ | refine rn_skip ?_ | refine rn_true rfl ?_ | refine rn_false rfl ?_ | refine rn_exit rfl ?_ | refine pl_not rfl rfl ?_)
  refine pl_op rfl rfl (opTo_call rfl rfl rfl rfl (by decide +kernel) ((crash_ret h3 (by omega) mask).mono ?_))
  rintro v w4 ⟨rfl, h4, hk4⟩
  have hkw4 : Keep [] w w4 := hk3.trans hk4 fun k hk => .inr (by simp at hk; omega)
  clear h3 hk3 hk4
  generalize settled (maskB mask) L S = S4 at *
  repeat (first | refine pl_pure hT rfl rfl rfl ?_ | refine pl_nil ?_ | refine rn_seq ?_ | refine rn_plain ?_ | refine rn_block ?_ | refine rn_inBlock ?_ | refine rn_skip ?_ | refine rn_true rfl ?_ | refine rn_false rfl ?_ | refine rn_exit rfl ?_ | refine pl_not rfl rfl ?_)
  refine pl_op rfl rfl (opTo_call rfl rfl rfl rfl (by decide +kernel) ((sure_ret h4).mono ?_))
  rintro v w5 ⟨ga, capa, rfl, hoa, hk5⟩
  have h5 := h4.keep hk5 (by simp)
  repeat (first | refine pl_pure hT rfl rfl rfl ?_ | refine pl_nil ?_ | refine rn_seq ?_ | refine rn_plain ?_ | refine rn_block ?_ | refine rn_inBlock ?_ | refine rn_skip ?_ | refine rn_true rfl ?_ | refine rn_false rfl ?_ | refine rn_exit rfl ?_ | refine pl_not rfl rfl ?_)
  refine pl_op rfl rfl (opTo_call rfl rfl rfl rfl (by decide +kernel) ((crash_ret h5 (by decide) again).mono ?_))
  rintro v w6 ⟨rfl, h6, hk6⟩
  rw [settled_nil] at h6
  have hga : ga ≠ B := by
    have := (hoa.lt ga rfl).1
    have := h4.blk.lt
    omega
  have hoa6 := hk6.owns hoa (fun k e => by simp [Value.ownBlock] at e; simp; omega)
  have hkw6 : Keep [] w w6 := (hkw4.tr0 hk5).trans hk6 fun k hk => .inr (by simp at hk; omega)
  repeat (first | refine pl_pure hT rfl rfl rfl ?_ | refine pl_nil ?_ | refine rn_seq ?_ | refine rn_plain ?_ | refine rn_block ?_ | refine rn_inBlock ?_ | refine rn_skip ?_ | refine rn_true rfl ?_ | refine rn_false rfl ?_ | refine rn_exit rfl ?_ | refine pl_not rfl rfl ?_)
  refine pl_op rfl rfl (opTo_call rfl rfl rfl rfl (by decide +kernel) ((sure_ret h6).mono ?_))
  rintro v w7 ⟨gb, capb, rfl, hob, hk7⟩
  have h7 := h6.keep hk7 (by simp)
  have hoa7 := hk7.owns hoa6 (by simp)
  repeat (first | refine pl_pure hT rfl rfl rfl ?_ | refine pl_nil ?_ | refine rn_seq ?_ | refine rn_plain ?_ | refine rn_block ?_ | refine rn_inBlock ?_ | refine rn_skip ?_ | refine rn_true rfl ?_ | refine rn_false rfl ?_ | refine rn_exit rfl ?_ | refine pl_not rfl rfl ?_)
  refine pl_op rfl rfl (opTo_call rfl rfl rfl rfl (by decide +kernel) ((flush_ret h7 (by decide)).mono ?_))
  rintro v w8 ⟨rfl, h8, hk8⟩
  rw [settled_nil] at h8
  have hgb : gb ≠ B := by
    have := (hob.lt gb rfl).1
    have := h6.blk.lt
    omega
  have hoa8 := hk8.owns hoa7 (fun k e => by simp [Value.ownBlock] at e; simp; omega)
  have hob8 := hk8.owns hob (fun k e => by simp [Value.ownBlock] at e; simp; omega)
  have hkw8 : Keep [] w w8 := (hkw6.tr0 hk7).trans hk8 fun k hk => .inr (by simp at hk; omega)
  repeat (first | refine pl_pure hT rfl rfl rfl ?_ | refine pl_nil ?_ | refine rn_seq ?_ | refine rn_plain ?_ | refine rn_block ?_ | refine rn_inBlock ?_ | refine rn_skip ?_ | refine rn_true rfl ?_ | refine rn_false rfl ?_ | refine rn_exit rfl ?_ | refine pl_not rfl rfl ?_)
  refine pl_op rfl rfl (opTo_call rfl rfl rfl rfl (by decide +kernel) ((sure_ret h8).mono ?_))
  rintro v w9 ⟨gc, capc, rfl, hoc, hk9⟩
  have h9 := h8.keep hk9 (by simp)
  have hoa9 := hk9.owns hoa8 (by simp)
  have hob9 := hk9.owns hob8 (by simp)
  have hkw9 := hkw8.tr0 hk9
  have hS4 := h9.len
  clear hoa hoa6 hoa7 hoa8 hob hob8 hk5 hk6 hk7 hk8 hk9 h4 h5 h6 h7 h8 hkw4 hkw6 hkw8 hga hgb
  repeat (first | refine pl_pure hT rfl rfl rfl ?_ | refine pl_nil ?_ | refine rn_seq ?_ | refine rn_plain ?_ | refine rn_block ?_ | refine rn_inBlock ?_ | refine rn_skip ?_ | refine rn_true rfl ?_ | refine rn_false rfl ?_ | refine rn_exit rfl ?_ | refine pl_not rfl rfl ?_)
  refine pl_val (.bool false) rfl rfl (val_int .i64 34 34 _ rfl rfl rfl rfl w9) ?_
  repeat (first | refine pl_pure hT rfl rfl rfl ?_ | refine pl_nil ?_ | refine rn_seq ?_ | refine rn_plain ?_ | refine rn_block ?_ | refine rn_inBlock ?_ | refine rn_skip ?_ | refine rn_true rfl ?_ | refine rn_false rfl ?_ | refine rn_exit rfl ?_ | refine pl_not rfl rfl ?_)
  refine pl_val (.bool false) rfl rfl (val_int .i64 34 34 _ rfl rfl rfl rfl w9) ?_
  repeat (first | refine pl_pure hT rfl rfl rfl ?_ | refine pl_nil ?_ | refine rn_seq ?_ | refine rn_plain ?_ | refine rn_block ?_ | refine rn_inBlock ?_ | refine rn_skip ?_ | refine rn_true rfl ?_ | refine rn_false rfl ?_ | refine rn_exit rfl ?_ | refine pl_not rfl rfl ?_)
  refine pl_val (.bool false) rfl rfl (val_int .i64 34 34 _ rfl rfl rfl rfl w9) ?_
  repeat (first | refine pl_pure hT rfl rfl rfl ?_ | refine pl_nil ?_ | refine rn_seq ?_ | refine rn_plain ?_ | refine rn_block ?_ | refine rn_inBlock ?_ | refine rn_skip ?_ | refine rn_true rfl ?_ | refine rn_false rfl ?_ | refine rn_exit rfl ?_ | refine pl_not rfl rfl ?_)
  refine rn_ind (fun m σ w' => ∃ j, m = 34 - j ∧ j ≤ 34 ∧ σ = [(7, .pointer (some ⟨B, 0, none⟩)), (9, .slice (some ⟨ga, 0, none⟩) 34 capa), (10, .slice (some ⟨gb, 0, none⟩) 34 capb), (11, .slice (some ⟨gc, 0, none⟩) 34 capc), (12, .int .i64 (j : Nat))] ∧ Keep [] w9 w')
    34 _ ?_ ⟨0, rfl, by decide, rfl, Keep.refl _ _⟩ ?_
  · exact ⟨rfl, rfl, rfl, rfl, rfl, trivial⟩
  rintro m σ w10 ih ⟨k, hm, hk, rfl, hk10⟩
  have h10 := h9.keep hk10 (by simp)
  have hkw10 := hkw9.tr0 hk10
  repeat (first | refine pl_pure hT rfl rfl rfl ?_ | refine pl_nil ?_ | refine rn_seq ?_ | refine rn_plain ?_ | refine rn_block ?_ | refine rn_inBlock ?_ | refine rn_skip ?_ | refine rn_true rfl ?_ | refine rn_false rfl ?_ | refine rn_exit rfl ?_ | refine pl_not rfl rfl ?_)
  rcases Nat.lt_or_ge k 34 with hlt | hge
  · refine pl_val (.bool true) rfl rfl (val_int .i64 _ _ _ rfl rfl rfl (by simp [intOp]; omega) w10) ?_
    repeat (first | refine pl_pure hT rfl rfl rfl ?_ | refine pl_nil ?_ | refine rn_seq ?_ | refine rn_plain ?_ | refine rn_block ?_ | refine rn_inBlock ?_ | refine rn_skip ?_ | refine rn_true rfl ?_ | refine rn_false rfl ?_ | refine rn_exit rfl ?_ | refine pl_not rfl rfl ?_)
    have hlen := sector_length hS4 hlt
    have hlen' : (ints (sector S4 k)).length = 8 := by rw [ints_length, hlen]
    have va : ∀ w', Keep [] w10 w' → w'.rangeAt ga (0 + k * 8) (ints (sector S4 k)) := fun w' hk' => sure_at ((hk10.tr0 hk').owns hoa9 (by simp)) hS4 hlt
    have vb : ∀ w', Keep [] w10 w' → w'.rangeAt gb (0 + k * 8) (ints (sector S4 k)) := fun w' hk' => sure_at ((hk10.tr0 hk').owns hob9 (by simp)) hS4 hlt
    have vc : ∀ w', Keep [] w10 w' → w'.rangeAt gc (0 + k * 8) (ints (sector S4 k)) := fun w' hk' => sure_at ((hk10.tr0 hk').owns hoc (by simp)) hS4 hlt
    have hS : Keep [] w10 w10.drew := (Keep.refl _ _).drew
    refine rn_draw (fun w' => Keep [] w10 w') [] hMix ?_
    refine dr_pure 0 hT rfl (by decide +kernel) rfl rfl rfl ?_
    refine dr_pure 1 hT rfl (by decide +kernel) rfl rfl rfl ?_
    refine dr_val 2 _ rfl (by decide +kernel) rfl rfl (fun w' _ => val_index k hT rfl rfl rfl rfl rfl hlt w') hS ?_
    refine dr_val 3 (.agg (ints (sector S4 k)).toArray) rfl (by decide +kernel) rfl rfl (fun w' hk' => val_load _ hT rfl rfl (by rw [hlen']; rfl) (va w' hk')) hS ?_
    refine dr_pure 4 hT rfl (by decide +kernel) rfl rfl rfl ?_
    refine dr_pure 5 hT rfl (by decide +kernel) rfl rfl rfl ?_
    refine dr_val 6 _ rfl (by decide +kernel) rfl rfl (fun w' _ => val_index k hT rfl rfl rfl rfl rfl hlt w') hS ?_
    refine dr_val 7 (.agg (ints (sector S4 k)).toArray) rfl (by decide +kernel) rfl rfl (fun w' hk' => val_load _ hT rfl rfl (by rw [hlen']; rfl) (vb w' hk')) hS ?_
    refine dr_val 8 (.bool false) rfl (by decide +kernel) rfl rfl (fun w' _ => val_neInts _ _ arrW rfl rfl rfl hlen hlen _ (by simp) w') hS ?_
    refine dr_pure 9 hT rfl (by decide +kernel) rfl rfl rfl ?_
    refine dr_pure 10 hT rfl (by decide +kernel) rfl rfl rfl ?_
    refine dr_pure 11 hT rfl (by decide +kernel) rfl rfl rfl ?_
    refine dr_val 12 _ rfl (by decide +kernel) rfl rfl (fun w' _ => val_index k hT rfl rfl rfl rfl rfl hlt w') hS ?_
    refine dr_val 13 (.agg (ints (sector S4 k)).toArray) rfl (by decide +kernel) rfl rfl (fun w' hk' => val_load _ hT rfl rfl (by rw [hlen']; rfl) (va w' hk')) hS ?_
    refine dr_pure 14 hT rfl (by decide +kernel) rfl rfl rfl ?_
    refine dr_pure 15 hT rfl (by decide +kernel) rfl rfl rfl ?_
    refine dr_val 16 _ rfl (by decide +kernel) rfl rfl (fun w' _ => val_index k hT rfl rfl rfl rfl rfl hlt w') hS ?_
    refine dr_val 17 (.agg (ints (sector S4 k)).toArray) rfl (by decide +kernel) rfl rfl (fun w' hk' => val_load _ hT rfl rfl (by rw [hlen']; rfl) (vc w' hk')) hS ?_
    refine dr_val 18 (.bool false) rfl (by decide +kernel) rfl rfl (fun w' _ => val_neInts _ _ arrW rfl rfl rfl hlen hlen _ (by simp) w') hS ?_
    refine dr_pure 19 hT rfl (by decide +kernel) rfl rfl rfl ?_
    refine dr_pure 20 hT rfl (by decide +kernel) rfl rfl rfl ?_
    refine dr_pure 21 hT rfl (by decide +kernel) rfl rfl rfl ?_
    refine dr_pure 22 hT rfl (by decide +kernel) rfl rfl rfl ?_
    refine dr_pure 24 hT rfl (by decide +kernel) rfl rfl rfl ?_
    refine dr_pure 25 hT rfl (by decide +kernel) rfl rfl rfl ?_
    refine dr_val 26 _ rfl (by decide +kernel) rfl rfl (fun w' _ => val_index k hT rfl rfl rfl rfl rfl hlt w') hS ?_
    refine dr_val 27 (.agg (ints (sector S4 k)).toArray) rfl (by decide +kernel) rfl rfl (fun w' hk' => val_load _ hT rfl rfl (by rw [hlen']; rfl) (va w' hk')) hS ?_
    refine dr_op 23 rfl (by decide +kernel) rfl rfl (opTo_call rfl rfl rfl rfl (by decide +kernel) ((read_ret (h10.keep hS (by simp)) (by decide) k).mono ?_))
    rintro v w11 ⟨rfl, hk11⟩
    have hS11 := hS.tr0 hk11
    refine ⟨fun _ => hS11, ?_⟩
    rw [readD_nil hlt]
    refine dr_val 28 (.bool false) rfl (by decide +kernel) rfl rfl (fun w' _ => val_neInts _ _ arrW rfl rfl rfl hlen hlen _ (by simp) w') hS11 ?_
    refine dr_pure 29 hT rfl (by decide +kernel) rfl rfl rfl ?_
    refine dr_done (by decide +kernel) ?_
    repeat (first | refine pl_pure hT rfl rfl rfl ?_ | refine pl_nil ?_ | refine rn_seq ?_ | refine rn_plain ?_ | refine rn_block ?_ | refine rn_inBlock ?_ | refine rn_skip ?_ | refine rn_true rfl ?_ | refine rn_false rfl ?_ | refine rn_exit rfl ?_ | refine pl_not rfl rfl ?_)
    refine pl_val (.int .i64 ((k + 1 : Nat) : Int)) rfl rfl (val_int .i64 k 1 _ rfl rfl rfl (by simp only [intOp]; rw [wrap_i64 (by omega) (by omega)]; rfl) w11) ?_
    repeat (first | refine pl_pure hT rfl rfl rfl ?_ | refine pl_nil ?_ | refine rn_seq ?_ | refine rn_plain ?_ | refine rn_block ?_ | refine rn_inBlock ?_ | refine rn_skip ?_ | refine rn_true rfl ?_ | refine rn_false rfl ?_ | refine rn_exit rfl ?_ | refine pl_not rfl rfl ?_)
    refine rn_sub ?_ (ih (34 - (k + 1)) _ w11 (by omega) ⟨k + 1, rfl, hlt, rfl, hk10.tr0 hS11⟩)
    exact ⟨rfl, rfl, rfl, rfl, rfl, trivial⟩
  refine pl_val (.bool false) rfl rfl (val_int .i64 _ _ _ rfl rfl rfl (by simp [intOp]; omega) w10) ?_
  repeat (first | refine pl_pure hT rfl rfl rfl ?_ | refine pl_nil ?_ | refine rn_seq ?_ | refine rn_plain ?_ | refine rn_block ?_ | refine rn_inBlock ?_ | refine rn_skip ?_ | refine rn_true rfl ?_ | refine rn_false rfl ?_ | refine rn_exit rfl ?_ | refine pl_not rfl rfl ?_)
  refine pl_op rfl rfl (opTo_call rfl rfl rfl rfl (by decide +kernel) ((read_ret h10 (by decide) (-1)).mono ?_))
  rintro v w11 ⟨rfl, hk11⟩
  rw [readD_out (by decide)]
  refine pl_val _ rfl rfl (val_build _ rfl rfl built_words0 w11) ?_
  refine pl_val (.bool true) rfl rfl (val_eqInts w0 (List.replicate 8 0) arrW rfl rfl rfl rfl rfl _ (by decide) w11) ?_
  repeat (first | refine pl_pure hT rfl rfl rfl ?_ | refine pl_nil ?_ | refine rn_seq ?_ | refine rn_plain ?_ | refine rn_block ?_ | refine rn_inBlock ?_ | refine rn_skip ?_ | refine rn_true rfl ?_ | refine rn_false rfl ?_ | refine rn_exit rfl ?_ | refine pl_not rfl rfl ?_)
  refine pl_op rfl rfl (opTo_call rfl rfl rfl rfl (by decide +kernel) ((read_ret (h10.keep hk11 (by simp)) (by decide) 34).mono ?_))
  rintro v w12 ⟨rfl, hk12⟩
  rw [readD_out (by decide)]
  refine pl_val _ rfl rfl (val_build _ rfl rfl built_words0 w12) ?_
  refine pl_val (.bool true) rfl rfl (val_eqInts w0 (List.replicate 8 0) arrW rfl rfl rfl rfl rfl _ (by decide) w12) ?_
  repeat (first | refine pl_pure hT rfl rfl rfl ?_ | refine pl_nil ?_ | refine rn_seq ?_ | refine rn_plain ?_ | refine rn_block ?_ | refine rn_inBlock ?_ | refine rn_skip ?_ | refine rn_true rfl ?_ | refine rn_false rfl ?_ | refine rn_exit rfl ?_ | refine pl_not rfl rfl ?_)
  exact rn_ret Try.func5 (.inl ⟨_, rfl, rfl⟩) ⟨rfl, (hkw10.tr0 hk11).tr0 hk12⟩
end E
end Go.Proofs.Ytoegglcdpdohdaa
