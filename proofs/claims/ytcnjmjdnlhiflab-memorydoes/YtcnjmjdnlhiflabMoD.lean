/- A memory, its store and its disk together; the first look of the laws; the list of steps that they are handed. -/
import Derived.Test.YtcnjmjdnlhiflabMoC
namespace Go.Proofs.Ytcnjmjdnlhiflab
set_option maxRecDepth 20000
namespace E
open Go.Proofs

/-- A memory at m on the store at s on the disk at d, where nothing waits; what is not dirty is as the store has it. -/
structure St (B : Nat) (w : World) (d s m : Nat) (S W : List Int) (D : List Bool) (wv : Value) : Prop where
  mem : MemV w m s W D
  sto : StoreV w s d
  dsk : DiskV B w d S [] wv
  good : Good S
  tied : Tied S W D
  hm : B ≤ m

section
variable {B : Nat} {w w' : World} {d s m : Nat} {S W : List Int} {D : List Bool} {wv : Value}

theorem St.fp (h : St B w d s m S W D wv) : ∀ k ∈ m :: fpD d wv, B ≤ k := by
  intro k hk
  rcases List.mem_cons.1 hk with rfl | hk
  · exact h.hm
  · exact (h.dsk.lt k hk).1
theorem St.lt (h : St B w d s m S W D wv) : ∀ k ∈ m :: fpD d wv, k < w.heap.size := by
  intro k hk
  rcases List.mem_cons.1 hk with rfl | hk
  · exact h.mem.blk.lt
  · exact (h.dsk.lt k hk).2
theorem St.keep0 (h : St B w d s m S W D wv) (hk : Keep [] w w') : St B w' d s m S W D wv := ⟨h.mem.keep hk (by simp), hk.blk h.sto (by simp), h.dsk.keep hk (by simp), h.good, h.tied, h.hm⟩
theorem St.nm (h : St B w d s m S W D wv) : m ∉ fpD d wv := not_fp h.dsk h.mem.blk (by decide)

theorem St.wds (h : St B w d s m S W D wv) {v : Value} {A : List Int} (ha : Wds w v A) (hk : Keep (m :: fpD d wv) w w') : Wds w' v A := ha.keep hk fun k L hk hb => by
  rcases List.mem_cons.1 hk with rfl | hk
  · exact Blk.ne hb h.mem.blk (by decide) rfl
  · exact not_fp h.dsk hb (by decide) hk
theorem St.wds1 (h : St B w d s m S W D wv) {v : Value} {A : List Int} (ha : Wds w v A) (hk : Keep [m] w w') : Wds w' v A := ha.keep hk fun k L hk hb => Blk.ne hb h.mem.blk (by decide) (by simpa using hk)

theorem puts_ret (h : St B w d s m S W D wv) (i x : Int) : Ret Try.prog 19 [.pointer (some ⟨m, 0, none⟩), .int .i64 i, .int .i64 x] w fun v w' => v = .bool (hasM i) ∧ St B w' d s m S (putW W i x) (putD W D i x) wv ∧ Keep [m] w w' := by
  refine (put_ret h.mem i x).mono ?_
  rintro v w1 ⟨rfl, h1, hk1⟩
  refine ⟨rfl, ⟨h1, hk1.blk h.sto (by simp; exact Blk.ne h.sto h.mem.blk (by decide)), h.dsk.keep hk1 fun k hk hm => h.nm (by simp at hm; rw [← hm]; exact hk), h.good, h.tied.put h.mem.wl h.mem.dl i x, h.hm⟩, hk1⟩

theorem syncs_ret (h : St B w d s m S W D wv) (hg1 : genS S < 1000000) (may : Int) (hmay : doneB (dirtyPs W D) may = true) : Ret Try.prog 22 [.pointer (some ⟨m, 0, none⟩), .int .i64 may] w fun v w' => v = .bool true ∧
      ∃ S2 wv2, St B w' d s m S2 W (List.replicate 14 false) wv2 ∧ genS S2 = genS S + 1 ∧ allS S2 = W ∧ Keep (m :: fpD d wv) w w' := by
  refine (sync_ret h.mem h.sto h.dsk hg1 may).mono ?_
  rintro v w1 ⟨rfl, hm1, hs1, hk1, wv1, hd1, hf1⟩
  rw [hmay] at hm1
  obtain ⟨⟨S2, hS2, hN⟩, _⟩ := commit_view h.good (chk_dirty W D) (dirtyTo_wf h.mem.wl D (by decide))
  have hn : deedsN (dirtyPs W D) may = (dirtyPs W D).length + 5 := by
    unfold deedsN
    rw [if_pos (by simpa [doneB] using hmay)]
  rw [hn] at hd1
  rw [hS2] at hd1
  have hall := hN.all h.tied
  exact ⟨by rw [hmay], S2, wv1, ⟨hm1, hs1, hd1, hN.good, tied_all _ hall, h.hm⟩, hN.gen, allS_eq h.mem.wl hall, hk1⟩
end

theorem doneB_neg (ps : List Pg) : doneB ps (-1) = true := by simp [doneB]

theorem allS0 : allS S0 = List.replicate 112 0 := by decide +kernel
def W5 : List Int := putW (List.replicate 112 0) 9 5
def D5 : List Bool := putD (List.replicate 112 0) (List.replicate 14 false) 9 5
theorem len5 : (dirtyPs W5 D5).length = 1 := by decide +kernel
theorem load6 : loadW (putW W5 9 6) 9 = 6 := by decide +kernel
theorem load5 : loadW W5 9 = 5 := by decide +kernel

/-- A memory that is made on a disk where nothing waits. -/
theorem fresh_st {B : Nat} {w w' : World} {d s m : Nat} {S : List Int} {wv : Value} (hm : MemV w' m s (allS S) (List.replicate 14 false)) (hs : StoreV w s d) (hd : DiskV B w d S [] wv) (hG : Good S) (hk : Keep [] w w') (hB : B ≤ m) : St B w' d s m S (allS S) (List.replicate 14 false) wv :=
  ⟨hm, hk.blk hs (by simp), hd.keep hk (by simp), hG, tied_new hG.len, hB⟩

theorem memoryBegun_ret (w : World) : Ret Try.prog 16 [] w fun v w' => v = .bool true ∧ Keep [] w w' := by
  refine ret_of 56 Try.func16 rfl rfl (by simp) ?_
  repeat (first | refine pl_pure hT rfl rfl rfl ?_ | refine pl_nil ?_ | refine rn_seq ?_ | refine rn_plain ?_ | refine rn_block ?_ | refine rn_inBlock ?_ | refine rn_skip ?_ | refine rn_true rfl ?_ | refine rn_false rfl ?_ | refine rn_exit rfl ?_ | refine pl_not rfl rfl ?_)
  refine pl_op rfl rfl (opTo_call rfl rfl rfl rfl (by decide +kernel) ((new_ret w).mono ?_))
  rintro v w1 ⟨rfl, h1, hk1⟩
  rw [show List.replicate 272 (0 : Int) = S0 from rfl] at h1
  repeat (first | refine pl_pure hT rfl rfl rfl ?_ | refine pl_nil ?_ | refine rn_seq ?_ | refine rn_plain ?_ | refine rn_block ?_ | refine rn_inBlock ?_ | refine rn_skip ?_ | refine rn_true rfl ?_ | refine rn_false rfl ?_ | refine rn_exit rfl ?_ | refine pl_not rfl rfl ?_)
  refine pl_op rfl rfl (opTo_call rfl rfl rfl rfl (by decide +kernel) ((open_ret w.heap.size w1).mono ?_))
  rintro v w2 ⟨rfl, hs2, hk2⟩
  have hkw2 := hk1.tr0 hk2
  have h2 := h1.keep hk2 (by simp)
  generalize w1.heap.size = s at *
  refine pl_op rfl rfl (opTo_call rfl rfl rfl rfl (by decide +kernel) ((mnew_ret hs2 h2).mono ?_))
  rintro v w3 ⟨m, rfl, hle, hm3, hk3⟩
  have h3 := fresh_st hm3 hs2 h2 good0 hk3 (Nat.le_trans hkw2.size hle)
  have hkw3 := hkw2.tr0 hk3
  rw [allS0] at h3
  clear hm3 hs2 h2 h1 hk1 hk2 hkw2 hk3 hle
  repeat (first | refine pl_pure hT rfl rfl rfl ?_ | refine pl_nil ?_ | refine rn_seq ?_ | refine rn_plain ?_ | refine rn_block ?_ | refine rn_inBlock ?_ | refine rn_skip ?_ | refine rn_true rfl ?_ | refine rn_false rfl ?_ | refine rn_exit rfl ?_ | refine pl_not rfl rfl ?_)
  refine pl_val (.bool false) rfl rfl (val_eqNil (by decide +kernel) rfl rfl w3) ?_
  repeat (first | refine pl_pure hT rfl rfl rfl ?_ | refine pl_nil ?_ | refine rn_seq ?_ | refine rn_plain ?_ | refine rn_block ?_ | refine rn_inBlock ?_ | refine rn_skip ?_ | refine rn_true rfl ?_ | refine rn_false rfl ?_ | refine rn_exit rfl ?_ | refine pl_not rfl rfl ?_)
  refine pl_op rfl rfl (opTo_call rfl rfl rfl rfl (by decide +kernel) ((puts_ret h3 9 5).mono ?_))
  rintro v w4 ⟨rfl, h4, hk4⟩
  have hkw4 : Keep [] w w4 := hkw3.trans hk4 fun k hk => .inr (by simp at hk; rw [hk]; exact h3.hm)
  rw [show putW (List.replicate 112 0) 9 5 = W5 from rfl, show putD (List.replicate 112 0) (List.replicate 14 false) 9 5 = D5 from rfl] at h4
  clear h3 hk4 hkw3
  repeat (first | refine pl_pure hT rfl rfl rfl ?_ | refine pl_nil ?_ | refine rn_seq ?_ | refine rn_plain ?_ | refine rn_block ?_ | refine rn_inBlock ?_ | refine rn_skip ?_ | refine rn_true rfl ?_ | refine rn_false rfl ?_ | refine rn_exit rfl ?_ | refine pl_not rfl rfl ?_)
  refine pl_op rfl rfl (opTo_call rfl rfl rfl rfl (by decide +kernel) ((dirty_ret h4.mem).mono ?_))
  rintro v w5 ⟨hp5, hk5⟩
  obtain ⟨pa, pcap, rfl⟩ := hp5.form
  rw [len5]
  have h5 := h4.keep0 hk5
  have hkw5 := hkw4.tr0 hk5
  repeat (first | refine pl_pure hT rfl rfl rfl ?_ | refine pl_nil ?_ | refine rn_seq ?_ | refine rn_plain ?_ | refine rn_block ?_ | refine rn_inBlock ?_ | refine rn_skip ?_ | refine rn_true rfl ?_ | refine rn_false rfl ?_ | refine rn_exit rfl ?_ | refine pl_not rfl rfl ?_)
  refine pl_op rfl rfl (opTo_call rfl rfl rfl rfl (by decide +kernel) ((syncs_ret h5 (by rw [genS0]; decide) (-1) (doneB_neg _)).mono ?_))
  rintro v w6 ⟨rfl, S6, wv6, h6, hg6, ha6, hk6⟩
  have hkw6 : Keep [] w w6 := hkw5.trans hk6 fun k hk => .inr (h5.fp k hk)
  clear h5 h4 hk5 hk6 hkw5 hkw4
  repeat (first | refine pl_pure hT rfl rfl rfl ?_ | refine pl_nil ?_ | refine rn_seq ?_ | refine rn_plain ?_ | refine rn_block ?_ | refine rn_inBlock ?_ | refine rn_skip ?_ | refine rn_true rfl ?_ | refine rn_false rfl ?_ | refine rn_exit rfl ?_ | refine pl_not rfl rfl ?_)
  refine pl_op rfl rfl (opTo_call rfl rfl rfl rfl (by decide +kernel) ((puts_ret h6 9 6).mono ?_))
  rintro v w7 ⟨rfl, h7, hk7⟩
  have hkw7 : Keep [] w w7 := hkw6.trans hk7 fun k hk => .inr (by simp at hk; rw [hk]; exact h6.hm)
  repeat (first | refine pl_pure hT rfl rfl rfl ?_ | refine pl_nil ?_ | refine rn_seq ?_ | refine rn_plain ?_ | refine rn_block ?_ | refine rn_inBlock ?_ | refine rn_skip ?_ | refine rn_true rfl ?_ | refine rn_false rfl ?_ | refine rn_exit rfl ?_ | refine pl_not rfl rfl ?_)
  refine pl_op rfl rfl (opTo_call rfl rfl rfl rfl (by decide +kernel) ((crash_ret h7.dsk (by decide) 0).mono ?_))
  rintro v w8 ⟨rfl, h8, hk8⟩
  rw [settled_nil] at h8
  have hkw8 : Keep [] w w8 := hkw7.trans hk8 fun k hk => .inr (by simp at hk; omega)
  have hm8 : MemV w8 m s (putW W5 9 6) (putD W5 (List.replicate 14 false) 9 6) := h7.mem.keep hk8 (by simp; exact Blk.ne h7.mem.blk h7.dsk.blk (by decide))
  repeat (first | refine pl_pure hT rfl rfl rfl ?_ | refine pl_nil ?_ | refine rn_seq ?_ | refine rn_plain ?_ | refine rn_block ?_ | refine rn_inBlock ?_ | refine rn_skip ?_ | refine rn_true rfl ?_ | refine rn_false rfl ?_ | refine rn_exit rfl ?_ | refine pl_not rfl rfl ?_)
  refine pl_op rfl rfl (opTo_call rfl rfl rfl rfl (by decide +kernel) ((open_ret w.heap.size w8).mono ?_))
  rintro v w9 ⟨rfl, hs9, hk9⟩
  have h9 := h8.keep hk9 (by simp)
  generalize w8.heap.size = s9 at *
  refine pl_op rfl rfl (opTo_call rfl rfl rfl rfl (by decide +kernel) ((mnew_ret hs9 h9).mono ?_))
  rintro v w10 ⟨n, rfl, hle, hm10, hk10⟩
  rw [ha6] at hm10
  have hkw10 := (hkw8.tr0 hk9).tr0 hk10
  have hmm10 := hm8.keep (hk9.tr0 hk10) (by simp)
  have hnm : n ≠ m := by have := (hm8.keep hk9 (by simp)).blk.lt; omega
  have hmw : w.heap.size ≤ m := h7.hm
  clear hk10 hk9 h9 hs9 hm8 hkw8 h8 hk8 hkw7 hk7 h7 hkw6 h6 hle
  repeat (first | refine pl_pure hT rfl rfl rfl ?_ | refine pl_nil ?_ | refine rn_seq ?_ | refine rn_plain ?_ | refine rn_block ?_ | refine rn_inBlock ?_ | refine rn_skip ?_ | refine rn_true rfl ?_ | refine rn_false rfl ?_ | refine rn_exit rfl ?_ | refine pl_not rfl rfl ?_)
  refine pl_val (.bool true) rfl rfl (val_int .i64 1 1 _ rfl rfl rfl rfl w10) ?_
  repeat (first | refine pl_pure hT rfl rfl rfl ?_ | refine pl_nil ?_ | refine rn_seq ?_ | refine rn_plain ?_ | refine rn_block ?_ | refine rn_inBlock ?_ | refine rn_skip ?_ | refine rn_true rfl ?_ | refine rn_false rfl ?_ | refine rn_exit rfl ?_ | refine pl_not rfl rfl ?_)
  refine pl_op rfl rfl (opTo_call rfl rfl rfl rfl (by decide +kernel) ((load_ret hmm10 9).mono ?_))
  rintro v w11 ⟨rfl, rfl⟩
  rw [load6]
  refine pl_val (.bool true) rfl rfl (val_int .i64 6 6 _ rfl rfl rfl rfl w11) ?_
  repeat (first | refine pl_pure hT rfl rfl rfl ?_ | refine pl_nil ?_ | refine rn_seq ?_ | refine rn_plain ?_ | refine rn_block ?_ | refine rn_inBlock ?_ | refine rn_skip ?_ | refine rn_true rfl ?_ | refine rn_false rfl ?_ | refine rn_exit rfl ?_ | refine pl_not rfl rfl ?_)
  refine pl_op rfl rfl (opTo_call rfl rfl rfl rfl (by decide +kernel) ((load_ret hm10 9).mono ?_))
  rintro v w11 ⟨rfl, rfl⟩
  rw [load5]
  refine pl_val (.bool true) rfl rfl (val_int .i64 5 5 _ rfl rfl rfl rfl w11) ?_
  repeat (first | refine pl_pure hT rfl rfl rfl ?_ | refine pl_nil ?_ | refine rn_seq ?_ | refine rn_plain ?_ | refine rn_block ?_ | refine rn_inBlock ?_ | refine rn_skip ?_ | refine rn_true rfl ?_ | refine rn_false rfl ?_ | refine rn_exit rfl ?_ | refine pl_not rfl rfl ?_)
  refine pl_op rfl rfl (opTo_call rfl rfl rfl rfl (by decide +kernel) ((put_ret hmm10 (-1) 1).mono ?_))
  rintro v w12 ⟨rfl, _, hk12⟩
  have hkw12 : Keep [] w w12 := hkw10.trans hk12 fun k hk => .inr (by simp at hk; omega)
  have hm12 := hm10.keep hk12 (by simpa using hnm)
  repeat (first | refine pl_pure hT rfl rfl rfl ?_ | refine pl_nil ?_ | refine rn_seq ?_ | refine rn_plain ?_ | refine rn_block ?_ | refine rn_inBlock ?_ | refine rn_skip ?_ | refine rn_true rfl ?_ | refine rn_false rfl ?_ | refine rn_exit rfl ?_ | refine pl_not rfl rfl ?_)
  refine pl_op rfl rfl (opTo_call rfl rfl rfl rfl (by decide +kernel) ((all_ret hm12).mono ?_))
  rintro v w13 ⟨⟨g, cap, _, rfl, _⟩, hk13⟩
  repeat (first | refine pl_pure hT rfl rfl rfl ?_ | refine pl_nil ?_ | refine rn_seq ?_ | refine rn_plain ?_ | refine rn_block ?_ | refine rn_inBlock ?_ | refine rn_skip ?_ | refine rn_true rfl ?_ | refine rn_false rfl ?_ | refine rn_exit rfl ?_ | refine pl_not rfl rfl ?_)
  refine pl_val (.bool true) rfl rfl (val_int .i64 112 112 _ rfl rfl rfl rfl w13) ?_
  repeat (first | refine pl_pure hT rfl rfl rfl ?_ | refine pl_nil ?_ | refine rn_seq ?_ | refine rn_plain ?_ | refine rn_block ?_ | refine rn_inBlock ?_ | refine rn_skip ?_ | refine rn_true rfl ?_ | refine rn_false rfl ?_ | refine rn_exit rfl ?_ | refine pl_not rfl rfl ?_)
  exact rn_ret Try.func16 (.inl ⟨_, rfl, rfl⟩) ⟨rfl, hkw12.tr0 hk13⟩

/-! ### The steps -/
/-- What to do, where, by how many deeds, the word, the mask. -/
structure MStep where
  d : Int
  a : Int
  k : Int
  x : Int
  m : Int
def scell (s : MStep) : List Value := [.int .i64 s.d, .int .i64 s.a, .int .i64 s.k, .int .i64 s.x, .int .u64 s.m]
theorem scell_length (s : MStep) : (scell s).length = 5 := rfl
theorem scell_one (s : MStep) : ∀ u ∈ scell s, u.oneCell' = true := by
  intro u hu
  simp [scell] at hu
  rcases hu with rfl | rfl | rfl | rfl | rfl <;> rfl

structure ArgM (B : Nat) (w : World) (lv : Value) (st : List MStep) : Prop where
  ex : ∃ a cap, lv = .slice a st.length cap ∧ (st ≠ [] → ∃ b q, a = some ⟨b, q, none⟩ ∧ b < B ∧ w.rangeAt b q (st.flatMap scell))
  le : B ≤ w.heap.size
theorem ArgM.keep {B : Nat} {w w' : World} {v : Value} {st : List MStep} {fp : List Nat} (h : ArgM B w v st) (hk : Keep fp w w') (hn : ∀ k ∈ fp, B ≤ k) : ArgM B w' v st := by
  obtain ⟨a, cap, hv, hm⟩ := h.ex
  refine ⟨⟨a, cap, hv, fun hne => ?_⟩, Nat.le_trans h.le hk.size⟩
  obtain ⟨b, q, ha, hlt, hr⟩ := hm hne
  exact ⟨b, q, ha, hlt, hk.range hr (Nat.lt_of_lt_of_le hlt h.le) fun hm => by have := hn b hm; omega⟩
theorem ArgM.at {B : Nat} {w : World} {v : Value} {st : List MStep} (h : ArgM B w v st) {j : Nat} {u : MStep} (hu : st[j]? = some u) :
    ∃ b q cap, v = .slice (some ⟨b, q, none⟩) st.length cap ∧ b < B ∧ w.rangeAt b (q + j * 5) (scell u) := by
  obtain ⟨a, cap, hv, hm⟩ := h.ex
  obtain ⟨b, q, ha, hlt, hr⟩ := hm (by intro e; simp [e] at hu)
  refine ⟨b, q, cap, by rw [hv, ha], hlt, range_sub hr (j * 5) ?_⟩
  exact flat_at (k := 5) (f := scell) (fun q _ => rfl) hu
theorem ArgM.form {B : Nat} {w : World} {lv : Value} {st : List MStep} (h : ArgM B w lv st) : ∃ a cap, lv = .slice a st.length cap := by
  obtain ⟨a, cap, hv, _⟩ := h.ex
  exact ⟨a, cap, hv⟩
end E
end Go.Proofs.Ytcnjmjdnlhiflab
