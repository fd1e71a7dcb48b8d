/- The contracts of Disk.settle, Disk.Flush, Disk.Crash, Disk.Sure. -/
import Derived.Test.YtcnjmjdnlhiflabDiskD
namespace Go.Proofs.Ytcnjmjdnlhiflab
set_option maxRecDepth 20000
namespace E
open Go.Proofs

def upd (S : List Int) (p : Wr) : List Int := S.take (p.1 * 8) ++ p.2 ++ S.drop (p.1 * 8 + 8)

theorem upd_length {S : List Int} {p : Wr} (hS : S.length = 272) (hp : p.1 < 34 ∧ p.2.length = 8) : (upd S p).length = 272 := by
  simp [upd, hS, hp.2]; omega

/-- What the sectors hold when the first j of the writes are settled. -/
def stl (stays : Nat → Bool) (L : List Wr) (j : Nat) (S : List Int) : List Int := ((L.take j).zipIdx).foldl (fun S q => if stays q.2 then upd S q.1 else S) S

theorem stl_zero (stays : Nat → Bool) (L : List Wr) (S : List Int) : stl stays L 0 S = S := by simp [stl]
theorem stl_succ (stays : Nat → Bool) {L : List Wr} {j : Nat} {p : Wr} (hp : L[j]? = some p) (S : List Int) : stl stays L (j + 1) S = if stays j then upd (stl stays L j S) p else stl stays L j S := by
  have hlt : j < L.length := (List.getElem?_eq_some_iff.1 hp).1
  have hj : L[j] = p := (List.getElem?_eq_some_iff.1 hp).2
  unfold stl
  rw [List.take_succ_eq_append_getElem hlt, List.zipIdx_append, List.foldl_append, hj]
  simp [Nat.min_eq_left (Nat.le_of_lt hlt)]
theorem stl_length {stays : Nat → Bool} {L : List Wr} (hL : ∀ p ∈ L, p.1 < 34 ∧ p.2.length = 8) {S : List Int} (hS : S.length = 272) : ∀ j, j ≤ L.length → (stl stays L j S).length = 272
  | 0, _ => by rw [stl_zero, hS]
  | j + 1, h => by
    have hp : L[j]? = some L[j] := List.getElem?_eq_getElem h
    rw [stl_succ stays hp]
    split
    · exact upd_length (stl_length hL hS j (by omega)) (hL _ (List.getElem_mem h))
    · exact stl_length hL hS j (by omega)

def settled (stays : Nat → Bool) (L : List Wr) (S : List Int) : List Int := stl stays L L.length S

theorem splice_upd {S : List Int} (hS : S.length = 272) (u : Value) {p : Wr} (hp : p.1 < 34 ∧ p.2.length = 8) : splice (ints S ++ [u]) (0 + p.1 * 8) (ints p.2) = ints (upd S p) ++ [u] := by
  have e1 : (ints S ++ [u]).take (0 + p.1 * 8) = ints (S.take (p.1 * 8)) := by
    rw [Nat.zero_add, List.take_append_of_le_length (by rw [ints_length]; omega)]
    simp [ints, List.map_take]
  have e2 : (ints S ++ [u]).drop (0 + p.1 * 8 + (ints p.2).length) = ints (S.drop (p.1 * 8 + 8)) ++ [u] := by
    rw [Nat.zero_add, ints_length, hp.2, List.drop_append_of_le_length (by rw [ints_length]; omega)]
    simp [ints, List.map_drop]
  rw [splice, e1, e2, upd]
  simp [ints]

theorem settle_ret {B : Nat} {w : World} {d : Nat} {S : List Int} {L : List Wr} {wv : Value} (h : DiskV B w d S L wv) (hL : L.length < 1000000) (stays : Nat → Bool) (g : Nat) (cap : List Value) (hg : callable Try.prog g = true)
    (hclo : ∀ i, i < L.length → ∀ w1, Keep [d] w w1 → Ret Try.prog g (.int .i64 (i : Nat) :: cap) w1 fun v w' => v = .bool (stays i) ∧ Keep [] w1 w') :
    Ret Try.prog 40 [.pointer (some ⟨d, 0, none⟩), .func (.func g) #[] cap.toArray] w fun v w' =>
      v = .tuple #[] ∧ DiskV B w' d (settled stays L S) [] (.slice none 0 0) ∧ Keep [d] w w' := by
  refine ret_of 31 Try.func40 rfl rfl (by simp) ?_
  repeat (first | refine pl_pure hT rfl rfl rfl ?_ | refine pl_nil ?_ | refine rn_seq ?_ | refine rn_plain ?_ | refine rn_block ?_ | refine rn_inBlock ?_ | refine rn_skip ?_ | refine rn_true rfl ?_ | refine rn_false rfl ?_ | refine rn_exit rfl ?_ | refine pl_not rfl rfl ?_)
  refine pl_val wv rfl rfl (val_load1 hT rfl rfl rfl (h.blk.cell (by simp [h.len, ints_length]))) ?_
  have hv : ∃ a cap, wv = .slice a L.length cap := by
    rcases h.owns.2 with ⟨h1, h2⟩ | ⟨g, cap, cur, h1, _⟩
    · exact ⟨none, 0, by rw [h1, h2]⟩
    · exact ⟨_, cap, h1⟩
  obtain ⟨wa, wcap, hwv⟩ := hv
  refine pl_val (.int .i64 L.length) rfl rfl (val_pure hT (by subst hwv; rfl) w) ?_
  repeat (first | refine pl_pure hT rfl rfl rfl ?_ | refine pl_nil ?_ | refine rn_seq ?_ | refine rn_plain ?_ | refine rn_block ?_ | refine rn_inBlock ?_ | refine rn_skip ?_ | refine rn_true rfl ?_ | refine rn_false rfl ?_ | refine rn_exit rfl ?_ | refine pl_not rfl rfl ?_)
  refine rn_ind (fun m σ w' => ∃ j, m = L.length - j ∧ j ≤ L.length ∧ σ = [(0, .pointer (some ⟨d, 0, none⟩)), (1, .func (.func g) #[] cap.toArray), (9, wv), (10, .int .i64 L.length), (11, .int .i64 (j : Nat))] ∧ DiskV B w' d (stl stays L j S) L wv ∧ Keep [d] w w')
    (L.length - 0) _ ?_ ⟨0, rfl, Nat.zero_le _, rfl, by rw [stl_zero]; exact h, Keep.refl _ _⟩ ?_
  · exact ⟨rfl, rfl, rfl, rfl, rfl, trivial⟩
  rintro m σ w2 ih ⟨j, hm, hj, rfl, h2, hk2⟩
  repeat (first | refine pl_pure hT rfl rfl rfl ?_ | refine pl_nil ?_ | refine rn_seq ?_ | refine rn_plain ?_ | refine rn_block ?_ | refine rn_inBlock ?_ | refine rn_skip ?_ | refine rn_true rfl ?_ | refine rn_false rfl ?_ | refine rn_exit rfl ?_ | refine pl_not rfl rfl ?_)
  rcases Nat.lt_or_ge j L.length with hlt | hge
  · refine pl_val (.bool true) rfl rfl (val_int .i64 _ _ _ rfl rfl rfl (by simp [intOp, hlt]) w2) ?_
    repeat (first | refine pl_pure hT rfl rfl rfl ?_ | refine pl_nil ?_ | refine rn_seq ?_ | refine rn_plain ?_ | refine rn_block ?_ | refine rn_inBlock ?_ | refine rn_skip ?_ | refine rn_true rfl ?_ | refine rn_false rfl ?_ | refine rn_exit rfl ?_ | refine pl_not rfl rfl ?_)
    obtain ⟨p, hp⟩ : ∃ p, L[j]? = some p := ⟨L[j], List.getElem?_eq_getElem hlt⟩
    obtain ⟨gb, gcap, hgv, hrange⟩ := h2.at hp
    have hpm : p ∈ L := List.mem_of_getElem? hp
    have hpw := h.wf p hpm
    refine pl_val _ rfl rfl (val_index j hT rfl (by rw [hgv]; rfl) rfl rfl rfl hlt w2) ?_
    refine pl_val (.agg (wcell p).toArray) rfl rfl (val_load _ hT rfl rfl (by rw [wcell_length hpw.2]; rfl) hrange) ?_
    refine pl_op rfl rfl (opTo_alloc _ rfl zero_write ?_)
    have hk3 : Keep [] w2 (w2.alloc (.cells (wcell (0, List.replicate 8 0)).toArray 104)) := (Keep.refl _ _).alloc _
    have hx3 : Blk (w2.alloc (.cells (wcell (0, List.replicate 8 0)).toArray 104)) w2.heap.size (wcell (0, List.replicate 8 0)) 104 := Blk.new _ _ _
    generalize (w2.alloc (.cells (wcell (0, List.replicate 8 0)).toArray 104)) = w3 at *
    repeat (first | refine pl_pure hT rfl rfl rfl ?_ | refine pl_nil ?_ | refine rn_seq ?_ | refine rn_plain ?_ | refine rn_block ?_ | refine rn_inBlock ?_ | refine rn_skip ?_ | refine rn_true rfl ?_ | refine rn_false rfl ?_ | refine rn_exit rfl ?_ | refine pl_not rfl rfl ?_)
    refine pl_op rfl rfl (opTo_store _ rfl rfl rfl rfl (by rw [wcell_length hpw.2]; decide +kernel) hx3 (by rw [wcell_length hpw.2]; decide) (wcell_one _) ?_)
    rw [splice_all (by rw [wcell_length hpw.2]; rfl)]
    have hk4 : Keep [] w2 (w3.setRow w2.heap.size (wcell p).toArray) := hk3.setRow _ _ (.inr (Nat.le_refl _))
    have hx4 := hx3.set (wcell p)
    generalize (w3.setRow w2.heap.size (wcell p).toArray) = w4 at *
    repeat (first | refine pl_pure hT rfl rfl rfl ?_ | refine pl_nil ?_ | refine rn_seq ?_ | refine rn_plain ?_ | refine rn_block ?_ | refine rn_inBlock ?_ | refine rn_skip ?_ | refine rn_true rfl ?_ | refine rn_false rfl ?_ | refine rn_exit rfl ?_ | refine pl_not rfl rfl ?_)
    refine pl_op rfl rfl (opTo_call rfl rfl rfl rfl hg ((hclo j hlt w4 (hk2.tr0 hk4)).mono ?_))
    rintro v w5 ⟨rfl, hk5⟩
    have hk25 : Keep [] w2 w5 := hk4.tr0 hk5
    have h5 := h2.keep hk25 (by simp)
    have hx5 := hk5.blk hx4 (by simp)
    have hnd : w2.heap.size ≠ d := by have := h2.blk.lt; omega
    cases hs : stays j with
    | false =>
      repeat (first | refine pl_pure hT rfl rfl rfl ?_ | refine pl_nil ?_ | refine rn_seq ?_ | refine rn_plain ?_ | refine rn_block ?_ | refine rn_inBlock ?_ | refine rn_skip ?_ | refine rn_true rfl ?_ | refine rn_false rfl ?_ | refine rn_exit rfl ?_ | refine pl_not rfl rfl ?_)
      refine pl_val (.int .i64 ((j + 1 : Nat) : Int)) rfl rfl (val_int .i64 j 1 _ rfl rfl rfl (by simp only [intOp]; rw [wrap_i64 (by omega) (by omega)]; rfl) w5) ?_
      repeat (first | refine pl_pure hT rfl rfl rfl ?_ | refine pl_nil ?_ | refine rn_seq ?_ | refine rn_plain ?_ | refine rn_block ?_ | refine rn_inBlock ?_ | refine rn_skip ?_ | refine rn_true rfl ?_ | refine rn_false rfl ?_ | refine rn_exit rfl ?_ | refine pl_not rfl rfl ?_)
      refine rn_sub ?_ (ih (L.length - (j + 1)) _ w5 (by omega) ⟨j + 1, rfl, hlt, rfl, by rw [stl_succ stays hp, hs]; exact h5, hk2.tr0 hk25⟩)
      exact ⟨rfl, rfl, rfl, rfl, rfl, trivial⟩
    | true =>
      repeat (first | refine pl_pure hT rfl rfl rfl ?_ | refine pl_nil ?_ | refine rn_seq ?_ | refine rn_plain ?_ | refine rn_block ?_ | refine rn_inBlock ?_ | refine rn_skip ?_ | refine rn_true rfl ?_ | refine rn_false rfl ?_ | refine rn_exit rfl ?_ | refine pl_not rfl rfl ?_)
      have hS : Keep [d] w5 w5.drew := (Keep.refl _ _).drew
      have hlen : (ints p.2).length = 8 := by rw [ints_length, hpw.2]
      have hxd : w2.heap.size ∉ [d] := by simpa using hnd
      refine rn_draw (fun w' => Keep [d] w5 w') [] hMix ?_
      refine dr_pure 0 hT rfl (by decide +kernel) rfl rfl rfl ?_
      refine dr_pure 1 hT rfl (by decide +kernel) rfl rfl rfl ?_
      refine dr_val 2 (.int .i64 p.1) rfl (by decide +kernel) rfl rfl (fun w' hk => val_load1 hT rfl rfl rfl ((hk.blk hx5 hxd).cell rfl)) hS ?_
      refine dr_pure 3 hT rfl (by decide +kernel) rfl rfl rfl ?_
      refine dr_val 4 (.agg (ints p.2).toArray) rfl (by decide +kernel) rfl rfl (fun w' hk => val_load _ hT rfl rfl (by rw [hlen]; rfl) ((hk.blk hx5 hxd).range (by simp [wcell]))) hS ?_
      refine dr_pure 5 hT rfl (by decide +kernel) rfl rfl rfl ?_
      refine dr_pure 6 hT rfl (by decide +kernel) rfl rfl rfl ?_
      refine dr_val 7 _ rfl (by decide +kernel) rfl rfl (fun w' _ => val_indexArr p.1 hT rfl rfl rfl rfl rfl hpw.1 w') hS ?_
      refine dr_op 8 rfl (by decide +kernel) rfl rfl (opTo_store _ rfl rfl rfl rfl (by rw [hlen]; decide +kernel) h5.blk.drew (by rw [hlen, List.length_append, ints_length, h5.len]; simp; omega) (ints_one _) ⟨fun _ => hS.setRow _ _ (.inl (by simp)), ?_⟩)
      rw [Nat.add_zero, splice_upd h5.len wv hpw]
      refine dr_done (by decide +kernel) ?_
      have hbn := h5.blk.drew.set (ints (upd (stl stays L j S) p) ++ [wv])
      have hkd : Keep [d] w5 (w5.drew.setRow d (ints (upd (stl stays L j S) p) ++ [wv]).toArray) := hS.setRow _ _ (.inl (by simp))
      generalize (w5.drew.setRow d (ints (upd (stl stays L j S) p) ++ [wv]).toArray) = w6 at *
      repeat (first | refine pl_pure hT rfl rfl rfl ?_ | refine pl_nil ?_ | refine rn_seq ?_ | refine rn_plain ?_ | refine rn_block ?_ | refine rn_inBlock ?_ | refine rn_skip ?_ | refine rn_true rfl ?_ | refine rn_false rfl ?_ | refine rn_exit rfl ?_ | refine pl_not rfl rfl ?_)
      refine pl_val (.int .i64 ((j + 1 : Nat) : Int)) rfl rfl (val_int .i64 j 1 _ rfl rfl rfl (by simp only [intOp]; rw [wrap_i64 (by omega) (by omega)]; rfl) w6) ?_
      repeat (first | refine pl_pure hT rfl rfl rfl ?_ | refine pl_nil ?_ | refine rn_seq ?_ | refine rn_plain ?_ | refine rn_block ?_ | refine rn_inBlock ?_ | refine rn_skip ?_ | refine rn_true rfl ?_ | refine rn_false rfl ?_ | refine rn_exit rfl ?_ | refine pl_not rfl rfl ?_)
      refine rn_sub ?_ (ih (L.length - (j + 1)) _ w6 (by omega) ⟨j + 1, rfl, hlt, rfl, ?_, (hk2.tr0 hk25).tr hkd⟩)
      · exact ⟨rfl, rfl, rfl, rfl, rfl, trivial⟩
      · rw [stl_succ stays hp, hs]
        exact ⟨hbn, hkd.owns h5.owns fun k e => by
          simp only [List.mem_singleton]
          intro e2
          exact h.ne (e2 ▸ e), h.ne, upd_length h5.len hpw, h.base, h.wf⟩
  · have hjj : j = L.length := by omega
    subst hjj
    refine pl_val (.bool false) rfl rfl (val_int .i64 _ _ _ rfl rfl rfl (by simp [intOp]) w2) ?_
    repeat (first | refine pl_pure hT rfl rfl rfl ?_ | refine pl_nil ?_ | refine rn_seq ?_ | refine rn_plain ?_ | refine rn_block ?_ | refine rn_inBlock ?_ | refine rn_skip ?_ | refine rn_true rfl ?_ | refine rn_false rfl ?_ | refine rn_exit rfl ?_ | refine pl_not rfl rfl ?_)
    refine pl_op rfl rfl (opTo_store _ rfl rfl rfl rfl (by kernel_rfl) h2.blk (by simp [ints_length, h2.len]) (by simp; rfl) ?_)
    rw [splice_last h2.len]
    repeat (first | refine pl_pure hT rfl rfl rfl ?_ | refine pl_nil ?_ | refine rn_seq ?_ | refine rn_plain ?_ | refine rn_block ?_ | refine rn_inBlock ?_ | refine rn_skip ?_ | refine rn_true rfl ?_ | refine rn_false rfl ?_ | refine rn_exit rfl ?_ | refine pl_not rfl rfl ?_)
    exact rn_end Try.func40 (.inr (.inl ⟨rfl, rfl⟩)) ⟨rfl, ⟨h2.blk.set _, World.ownsRow_nil _ _ _ _, by simp [Value.ownBlock], h2.len, h.base, by simp⟩, hk2.setRow _ _ (.inl (by simp))⟩

theorem flush_ret {B : Nat} {w : World} {d : Nat} {S : List Int} {L : List Wr} {wv : Value} (h : DiskV B w d S L wv) (hL : L.length < 1000000) :
    Ret Try.prog 50 [.pointer (some ⟨d, 0, none⟩)] w fun v w' => v = .tuple #[] ∧ DiskV B w' d (settled (fun _ => true) L S) [] (.slice none 0 0) ∧ Keep [d] w w' := by
  refine ret_of 4 Try.func50 rfl rfl (by simp) ?_
  repeat (first | refine pl_pure hT rfl rfl rfl ?_ | refine pl_nil ?_ | refine rn_seq ?_ | refine rn_plain ?_ | refine rn_block ?_ | refine rn_inBlock ?_ | refine rn_skip ?_ | refine rn_true rfl ?_ | refine rn_false rfl ?_ | refine rn_exit rfl ?_ | refine pl_not rfl rfl ?_)
  refine pl_op rfl rfl (opTo_call rfl rfl rfl rfl (by decide +kernel) ((settle_ret h hL (fun _ => true) 55 [] (by decide +kernel) (fun i _ w1 _ => (flush1_ret i w1).mono fun v w' hv => ⟨hv.1, hv.2 ▸ Keep.refl _ _⟩)).mono ?_))
  rintro v w1 ⟨rfl, h1, hk⟩
  repeat (first | refine pl_pure hT rfl rfl rfl ?_ | refine pl_nil ?_ | refine rn_seq ?_ | refine rn_plain ?_ | refine rn_block ?_ | refine rn_inBlock ?_ | refine rn_skip ?_ | refine rn_true rfl ?_ | refine rn_false rfl ?_ | refine rn_exit rfl ?_ | refine pl_not rfl rfl ?_)
  exact rn_end Try.func50 (.inr (.inl ⟨rfl, rfl⟩)) ⟨rfl, h1, hk⟩

theorem crash_ret {B : Nat} {w : World} {d : Nat} {S : List Int} {L : List Wr} {wv : Value} (h : DiskV B w d S L wv) (hL : L.length < 1000000) (mask : Int) :
    Ret Try.prog 15 [.pointer (some ⟨d, 0, none⟩), .int .u64 mask] w fun v w' => v = .tuple #[] ∧ DiskV B w' d (settled (maskB mask) L S) [] (.slice none 0 0) ∧ Keep [d] w w' := by
  refine ret_of 7 Try.func15 rfl rfl (by simp) ?_
  repeat (first | refine pl_pure hT rfl rfl rfl ?_ | refine pl_nil ?_ | refine rn_seq ?_ | refine rn_plain ?_ | refine rn_block ?_ | refine rn_inBlock ?_ | refine rn_skip ?_ | refine rn_true rfl ?_ | refine rn_false rfl ?_ | refine rn_exit rfl ?_ | refine pl_not rfl rfl ?_)
  refine pl_op rfl rfl (opTo_box [.int .u64 mask] rfl rfl rfl ?_)
  have hk1 : Keep [] w (w.alloc (.cells [Value.int .u64 mask].toArray 26)) := (Keep.refl _ _).alloc _
  have hc : Blk (w.alloc (.cells [Value.int .u64 mask].toArray 26)) w.heap.size [.int .u64 mask] 26 := Blk.new _ _ _
  generalize (w.alloc (.cells [Value.int .u64 mask].toArray 26)) = w1 at *
  have hnd : w.heap.size ≠ d := by have := h.blk.lt; omega
  repeat (first | refine pl_pure hT rfl rfl rfl ?_ | refine pl_nil ?_ | refine rn_seq ?_ | refine rn_plain ?_ | refine rn_block ?_ | refine rn_inBlock ?_ | refine rn_skip ?_ | refine rn_true rfl ?_ | refine rn_false rfl ?_ | refine rn_exit rfl ?_ | refine pl_not rfl rfl ?_)
  refine pl_op rfl rfl (opTo_call rfl rfl rfl rfl (by decide +kernel) ((settle_ret (h.keep hk1 (by simp)) hL (maskB mask) 41 [.pointer (some ⟨w.heap.size, 0, none⟩)] (by decide +kernel)
    (fun i _ w2 hk2 => (crash1_ret (hk2.blk hc (by simpa using hnd)) i).mono fun v w' hv => ⟨hv.1, hv.2 ▸ Keep.refl _ _⟩)).mono ?_))
  rintro v w2 ⟨rfl, h2, hk2⟩
  repeat (first | refine pl_pure hT rfl rfl rfl ?_ | refine pl_nil ?_ | refine rn_seq ?_ | refine rn_plain ?_ | refine rn_block ?_ | refine rn_inBlock ?_ | refine rn_skip ?_ | refine rn_true rfl ?_ | refine rn_false rfl ?_ | refine rn_exit rfl ?_ | refine pl_not rfl rfl ?_)
  exact rn_end Try.func15 (.inr (.inl ⟨rfl, rfl⟩)) ⟨rfl, h2, (hk1.of0).tr hk2⟩

theorem clone_ret {w : World} {b : Nat} {cs : List Value} (hr : w.rangeAt b 0 cs) (hl : cs.length = 272) (h1 : ∀ u ∈ cs, u.oneCell' = true) :
    Ret Try.prog 53 [.slice (some ⟨b, 0, none⟩) 34 34] w fun v w' => ∃ g cap, v = .slice (some ⟨g, 0, none⟩) 34 cap ∧ w'.ownsRow w.heap.size 37 8 v 34 cs ∧ Keep [] w w' := by
  refine ret_of 8 Try.func53 rfl rfl (by simp) ?_
  repeat (first | refine pl_pure hT rfl rfl rfl ?_ | refine pl_nil ?_ | refine rn_seq ?_ | refine rn_plain ?_ | refine rn_block ?_ | refine rn_inBlock ?_ | refine rn_skip ?_ | refine rn_true rfl ?_ | refine rn_false rfl ?_ | refine rn_exit rfl ?_ | refine pl_not rfl rfl ?_)
  refine pl_val (.bool false) rfl rfl (val_notNil hT rfl rfl rfl w) ?_
  repeat (first | refine pl_pure hT rfl rfl rfl ?_ | refine pl_nil ?_ | refine rn_seq ?_ | refine rn_plain ?_ | refine rn_block ?_ | refine rn_inBlock ?_ | refine rn_skip ?_ | refine rn_true rfl ?_ | refine rn_false rfl ?_ | refine rn_exit rfl ?_ | refine pl_not rfl rfl ?_)
  refine pl_op rfl rfl (opTo_buildSlice 37 [] rfl rfl (by kernel_rfl) ?_)
  have hk1 : Keep [] w (w.alloc (.cells ([] : List Value).toArray 37)) := (Keep.refl _ _).alloc _
  have hb1 : Blk (w.alloc (.cells ([] : List Value).toArray 37)) w.heap.size [] 37 := Blk.new _ _ _
  have hr1 : (w.alloc (.cells ([] : List Value).toArray 37)).rangeAt b 0 cs := World.rangeAt_alloc hr _
  generalize (w.alloc (.cells ([] : List Value).toArray 37)) = w1 at *
  repeat (first | refine pl_pure hT rfl rfl rfl ?_ | refine pl_nil ?_ | refine rn_seq ?_ | refine rn_plain ?_ | refine rn_block ?_ | refine rn_inBlock ?_ | refine rn_skip ?_ | refine rn_true rfl ?_ | refine rn_false rfl ?_ | refine rn_exit rfl ?_ | refine pl_not rfl rfl ?_)
  refine pl_op rfl rfl (opTo_append w.heap.size 37 8 64 [] cs rfl rfl rfl (by decide +kernel) (by decide) ⟨rfl, .inr ⟨w.heap.size, 0, #[], rfl, Nat.le_refl _, hb1, Nat.le_refl _, by decide, rfl, rfl⟩⟩ hr1 hl h1 (by decide) (by decide) (by decide) (by have := hk1.size; omega) ?_)
  intro g cap w2 hown hgrow hat hlt
  repeat (first | refine pl_pure hT rfl rfl rfl ?_ | refine pl_nil ?_ | refine rn_seq ?_ | refine rn_plain ?_ | refine rn_block ?_ | refine rn_inBlock ?_ | refine rn_skip ?_ | refine rn_true rfl ?_ | refine rn_false rfl ?_ | refine rn_exit rfl ?_ | refine pl_not rfl rfl ?_)
  refine rn_ret Try.func53 (.inl ⟨_, rfl, rfl⟩) ⟨g, cap, rfl, by simpa using hown, hk1.grown hgrow fun k e => ?_⟩
  simp only [Value.ownBlock, Option.some.injEq] at e
  exact .inr (by omega)

theorem sure_ret {B : Nat} {w : World} {d : Nat} {S : List Int} {L : List Wr} {wv : Value} (h : DiskV B w d S L wv) :
    Ret Try.prog 37 [.pointer (some ⟨d, 0, none⟩)] w fun v w' => ∃ g cap, v = .slice (some ⟨g, 0, none⟩) 34 cap ∧ w'.ownsRow w.heap.size 37 8 v 34 (ints S) ∧ Keep [] w w' := by
  refine ret_of 8 Try.func37 rfl rfl (by simp) ?_
  repeat (first | refine pl_pure hT rfl rfl rfl ?_ | refine pl_nil ?_ | refine rn_seq ?_ | refine rn_plain ?_ | refine rn_block ?_ | refine rn_inBlock ?_ | refine rn_skip ?_ | refine rn_true rfl ?_ | refine rn_false rfl ?_ | refine rn_exit rfl ?_ | refine pl_not rfl rfl ?_)
  refine pl_val _ rfl rfl (val_sliceArr hT rfl rfl rfl w) ?_
  refine pl_op rfl rfl (opTo_call rfl rfl rfl rfl (by decide +kernel) ((clone_ret (h.blk.range (by simp)) (by rw [ints_length, h.len]) (ints_one S)).mono ?_))
  rintro v w1 ⟨g, cap, rfl, ho, hk⟩
  repeat (first | refine pl_pure hT rfl rfl rfl ?_ | refine pl_nil ?_ | refine rn_seq ?_ | refine rn_plain ?_ | refine rn_block ?_ | refine rn_inBlock ?_ | refine rn_skip ?_ | refine rn_true rfl ?_ | refine rn_false rfl ?_ | refine rn_exit rfl ?_ | refine pl_not rfl rfl ?_)
  exact rn_ret Try.func37 (.inl ⟨_, rfl, rfl⟩) ⟨g, cap, rfl, ho, hk⟩
end E
end Go.Proofs.Ytcnjmjdnlhiflab
