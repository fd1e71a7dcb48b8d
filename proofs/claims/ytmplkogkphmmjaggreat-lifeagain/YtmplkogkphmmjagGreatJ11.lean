/- Several texts in one: StoO, StoP, MoA, MoB, MoM, MoC, MoD, MaK. -/
import Derived.Test.YtmplkogkphmmjagGreatStoN
import Derived.Test.YtmplkogkphmmjagGreatJ03
import Derived.Test.YtmplkogkphmmjagGreatJ06
import Derived.Test.YtmplkogkphmmjagGreatJ05
import Derived.Test.YtmplkogkphmmjagGreatJ07
/- What the laws of a store know: a commit by its view; a store that is new; the first look; the lists that they are handed. -/
namespace Go.Proofs.YtmplkogkphmmjagGreat
set_option maxRecDepth 20000
set_option maxHeartbeats 4000000
namespace E
open Go.Proofs

/-! ### A commit by its view -/
theorem commit_view {S : List Int} (hG : Good S) {ps : List Pg} (hc : chk ps = 0) (hwf : ∀ p ∈ ps, p.2.length = 8) :
    (∃ S2, doDeeds ((deedsOf S ps).take (ps.length + 5)) (S, []) = (S2, []) ∧ New S ps S2) ∧
    ∀ m, m < ps.length + 5 → ∀ stays : Nat → Bool,
      (m = ps.length + 4 ∧ stays 0 = true → New S ps (settled stays (doDeeds ((deedsOf S ps).take m) (S, [])).2 (doDeeds ((deedsOf S ps).take m) (S, [])).1)) ∧
      (¬ (m = ps.length + 4 ∧ stays 0 = true) → Same S (settled stays (doDeeds ((deedsOf S ps).take m) (S, [])).2 (doDeeds ((deedsOf S ps).take m) (S, [])).1)) := by
  obtain ⟨W, r, hWl, hW, hr, hD, hsame, hnew⟩ := commit_math hG hc hwf
  have hlen : (W.map fun p => (some ((p.1 : Int), p.2) : Deed)).length = ps.length + 2 := by simp [hWl]
  have hwr := doDeeds_writes W (fun p hp => (hW p hp).1) S []
  rw [List.nil_append] at hwr
  have hb : hasB ((r.1 : Nat) : Int) = true := by have := hr.1; simp [hasB]; omega
  have h3 : doDeeds ((deedsOf S ps).take (ps.length + 3)) (S, []) = (settled (fun _ => true) W S, []) := by
    rw [hD, List.append_assoc, List.append_assoc, List.take_append, hlen, List.take_of_length_le (by omega), show ps.length + 3 - (ps.length + 2) = 1 by omega, doDeeds, List.foldl_append]
    rw [doDeeds] at hwr
    rw [hwr]
    rfl
  have h4 : doDeeds ((deedsOf S ps).take (ps.length + 4)) (S, []) = (settled (fun _ => true) W S, [r]) := by
    rw [hD, List.append_assoc, List.append_assoc, List.take_append, hlen, List.take_of_length_le (by omega), show ps.length + 4 - (ps.length + 2) = 2 by omega, doDeeds, List.foldl_append]
    rw [doDeeds] at hwr
    rw [hwr]
    show doDeed (doDeed (S, W) none) (some ((r.1 : Int), r.2)) = _
    simp [doDeed, hb]
  have h5 : doDeeds ((deedsOf S ps).take (ps.length + 5)) (S, []) = (upd (settled (fun _ => true) W S) r, []) := by
    rw [List.take_of_length_le (by rw [deedsOf_len]; omega)]
    rw [hD, List.append_assoc, List.append_assoc, doDeeds, List.foldl_append]
    rw [doDeeds] at hwr
    rw [hwr]
    show doDeed (doDeed (doDeed (S, W) none) (some ((r.1 : Int), r.2))) none = _
    simp only [doDeed, hb, if_true, List.nil_append, Int.toNat_natCast]
    rw [settled_all [_]]
    rfl
  refine ⟨⟨_, h5, hnew⟩, fun m hm stays => ?_⟩
  have hsW : Same S (settled (fun _ => true) W S) := hsame W _ fun p hp => hp
  rcases Nat.lt_or_ge m (ps.length + 3) with h | h
  · refine ⟨fun he => by omega, fun _ => ?_⟩
    have : doDeeds ((deedsOf S ps).take m) (S, []) = (S, W.take m) := by
      rw [hD, List.append_assoc, List.append_assoc, List.take_append_of_le_length (by rw [hlen]; omega), ← List.map_take]
      have := doDeeds_writes (W.take m) (fun p hp => (hW p (List.mem_of_mem_take hp)).1) S []
      rwa [List.nil_append] at this
    rw [this]
    exact hsame _ _ fun p hp => List.mem_of_mem_take hp
  · have : m = ps.length + 3 ∨ m = ps.length + 4 := by omega
    rcases this with rfl | rfl
    · rw [h3]
      exact ⟨fun he => by omega, fun _ => hsW⟩
    · rw [h4]
      have es : settled stays [r] (settled (fun _ => true) W S) = if stays 0 then upd (settled (fun _ => true) W S) r else settled (fun _ => true) W S := by
        simp [settled, stl]
      rw [es]
      refine ⟨fun he => by rw [if_pos he.2]; exact hnew, fun hn => ?_⟩
      rw [if_neg fun h0 => hn ⟨rfl, h0⟩]
      exact hsW

def S0 : List Int := List.replicate 272 0
theorem pgS0 : pgS S0 = List.replicate 14 0 := by decide +kernel
theorem genS0 : genS S0 = 0 := by decide +kernel
theorem good0 : Good S0 := by
  refine ⟨List.length_replicate, ?_, ?_⟩
  · decide +kernel
  · decide +kernel
theorem read0 (i : Int) : readS S0 i = z8 := by
  unfold readS
  split
  · rw [pgS0]
    have : (List.replicate 14 (0 : Int)).getD i.toNat 0 = 0 := by
      rw [List.getD_eq_getElem?_getD, List.getElem?_replicate]
      split <;> rfl
    rw [this]
    rfl
  · rfl

/-- The words that pages say of a page, if any. -/
def lookI (ps : List Pg) (i : Int) : Option (List Int) := ((ps.filter fun p => p.1 == i).getLast?).map (·.2)
theorem lookI_snoc (ps : List Pg) (p : Pg) (i : Int) : lookI (ps ++ [p]) i = if p.1 = i then some p.2 else lookI ps i := by
  unfold lookI
  rw [List.filter_append]
  by_cases h : p.1 = i
  · simp [h]
  · simp [h]
theorem New.look {S S' : List Int} {ps : List Pg} (h : New S ps S') (hc : chk ps = 0) (i : Int) : readS S' i = (lookI ps i).getD (readS S i) := by
  cases hi : hasP i with
  | true =>
    have hi' : 0 ≤ i ∧ i < 14 := by simpa [hasP] using hi
    rw [h.read i hi, newRead]
    have : lookP ps i.toNat = lookI ps i := by
      unfold lookP lookI
      rw [show ((i.toNat : Nat) : Int) = i by omega]
    rw [this]
    cases lookI ps i <;> rfl
  | false =>
    have hn : lookI ps i = none := by
      unfold lookI
      rw [List.filter_eq_nil_iff.2 fun p hp => ?_]
      · rfl
      · have := chkFrom_ok hc p hp
        simp only [beq_iff_eq]
        intro e
        rw [e, hi] at this
        cases this
    rw [hn]
    simp [readS, hi]

/-! ### The first look -/
def ws5 : List Int := [5, 0, 0, 0, 0, 0, 0, 0]
def ws6 : List Int := [6, 0, 0, 0, 0, 0, 0, 0]
theorem built_5 : Tryz.prog.built 109 [(0, Value.int .i64 5)] = some (ints ws5).toArray := by kernel_rfl
theorem built_6 : Tryz.prog.built 109 [(0, Value.int .i64 6)] = some (ints ws6).toArray := by kernel_rfl
theorem built_pg (i : Int) {ws : List Int} (h : ws.length = 8) : Tryz.prog.built 168 [(0, Value.int .i64 i), (1, Value.agg (ints ws).toArray)] = some (pcell (i, ws)).toArray := by
  obtain ⟨a, b, c, d, e, f, g, j, rfl⟩ := list8 h
  kernel_rfl
theorem slice_pg (i : Int) {ws : List Int} (h : ws.length = 8) : sliceCells Tryz.prog 162 1 [(0, Value.agg (pcell (i, ws)).toArray)] = some (168, (pcell (i, ws)).toArray) := by
  obtain ⟨a, b, c, d, e, f, g, j, rfl⟩ := list8 h
  kernel_rfl

theorem pgs_one (w : World) (p : Pg) (h8 : p.2.length = 8) : Pgs (w.heap.size + 1) (w.alloc (.cells (pcell p).toArray 168)) (.slice (some ⟨w.heap.size, 0, none⟩) 1 1) [p] := by
  refine ⟨⟨_, _, rfl, fun _ => ⟨_, _, rfl, Nat.lt_succ_self _, (Blk.new w (pcell p) _).range ?_⟩⟩, by simpa using h8, by rw [World.size_alloc]; exact Nat.le_refl _⟩
  simp [pcells]

end E
end Go.Proofs.YtmplkogkphmmjagGreat

/- The list of steps that a law of a store is handed, as it lies in memory; greatStore. -/
namespace Go.Proofs.YtmplkogkphmmjagGreat
set_option maxRecDepth 20000
set_option maxHeartbeats 4000000
namespace E
open Go.Proofs

/-- A step: what to do, by how many deeds, pages, a mask. -/
structure SStep where
  d : Int
  k : Int
  pv : Value
  ps : List Pg
  m : Int

def tcell (s : SStep) : List Value := [.int .i64 s.d, .int .i64 s.k, s.pv, .int .u64 s.m]
def tcells (st : List SStep) : List Value := st.flatMap tcell
theorem tcell_length (s : SStep) : (tcell s).length = 4 := rfl

structure ArgT (B : Nat) (w : World) (lv : Value) (st : List SStep) : Prop where
  ex : ∃ a cap, lv = .slice a st.length cap ∧ (st ≠ [] → ∃ b q, a = some ⟨b, q, none⟩ ∧ b < B ∧ w.rangeAt b q (tcells st))
  pgs : ∀ s ∈ st, Pgs B w s.pv s.ps
  le : B ≤ w.heap.size

theorem ArgT.keep {B : Nat} {w w' : World} {lv : Value} {st : List SStep} {fp : List Nat} (h : ArgT B w lv st) (hk : Keep fp w w') (hn : ∀ k ∈ fp, B ≤ k) : ArgT B w' lv st := by
  obtain ⟨a, cap, hv, hm⟩ := h.ex
  refine ⟨⟨a, cap, hv, fun hne => ?_⟩, fun s hs => (h.pgs s hs).keep hk hn, Nat.le_trans h.le hk.size⟩
  obtain ⟨b, q, ha, hlt, hr⟩ := hm hne
  exact ⟨b, q, ha, hlt, hk.range hr (Nat.lt_of_lt_of_le hlt h.le) fun hm => by have := hn b hm; omega⟩
theorem ArgT.at {B : Nat} {w : World} {lv : Value} {st : List SStep} (h : ArgT B w lv st) {j : Nat} {s : SStep} (hs : st[j]? = some s) :
    ∃ b q cap, lv = .slice (some ⟨b, q, none⟩) st.length cap ∧ b < B ∧ w.rangeAt b (q + j * 4) (tcell s) := by
  obtain ⟨a, cap, hv, hm⟩ := h.ex
  obtain ⟨b, q, ha, hlt, hr⟩ := hm (by intro e; simp [e] at hs)
  refine ⟨b, q, cap, by rw [hv, ha], hlt, range_sub hr (j * 4) ?_⟩
  rw [tcell_length]
  exact flat_at (fun q _ => tcell_length q) hs
theorem ArgT.form {B : Nat} {w : World} {lv : Value} {st : List SStep} (h : ArgT B w lv st) : ∃ a cap, lv = .slice a st.length cap := by
  obtain ⟨a, cap, hv, _⟩ := h.ex
  exact ⟨a, cap, hv⟩
theorem Pgs.form {B : Nat} {w : World} {v : Value} {ps : List Pg} (h : Pgs B w v ps) : ∃ a cap, v = .slice a ps.length cap := by
  obtain ⟨a, cap, hv, _⟩ := h.ex
  exact ⟨a, cap, hv⟩

def Small (st : List SStep) : Prop := st.length ≤ 60 ∧ ∀ s ∈ st, s.ps.length ≤ 30

theorem not_fp {B : Nat} {w : World} {d : Nat} {S : List Int} {L : List Wr} {wv : Value} (h : DiskV B w d S L wv) {b : Nat} {M : List Value} {e : TypeId} (hb : Blk w b M e) (he : (e == 113 || e == 153) = false) : b ∉ fpD d wv := fun hm => by
  rcases fpD_typ h b hm _ _ hb with h1 | h1 <;> simp [h1] at he

theorem lookI_take {ps : List Pg} {k : Nat} {p : Pg} (h : ps[k]? = some p) (i : Int) (x : List Int) : (lookI (ps.take (k + 1)) i).getD x = if p.1 = i then p.2 else (lookI (ps.take k) i).getD x := by
  have hlt : k < ps.length := (List.getElem?_eq_some_iff.1 h).1
  rw [List.take_succ_eq_append_getElem hlt, (List.getElem?_eq_some_iff.1 h).2, lookI_snoc]
  split <;> rfl

theorem look_len {ps : List Pg} (hwf : ∀ p ∈ ps, p.2.length = 8) (i : Int) {x : List Int} (hx : x.length = 8) : ((lookI ps i).getD x).length = 8 := by
  unfold lookI
  cases h : (ps.filter fun p => p.1 == i).getLast? with
  | none => exact hx
  | some p => exact hwf p (List.mem_filter.1 (List.mem_of_getLast? h)).1

end E
end Go.Proofs.YtmplkogkphmmjagGreat

/- A memory as it lies in memory; the contracts of its Load, Put, All. -/
namespace Go.Proofs.YtmplkogkphmmjagGreat
set_option maxRecDepth 20000
set_option maxHeartbeats 4000000
namespace E
open Go.Proofs

def mcells (s : Nat) (W : List Int) (D : List Bool) : List Value := Value.pointer (some ⟨s, 0, none⟩) :: (ints W ++ bools D)

/-- A memory at m on the store at s: its words, and in which pages they were changed. -/
structure MemV (w : World) (m s : Nat) (W : List Int) (D : List Bool) : Prop where
  blk : Blk w m (mcells s W D) 57
  wl : W.length = 112
  dl : D.length = 14

theorem MemV.keep {w w' : World} {m s : Nat} {W : List Int} {D : List Bool} {fp : List Nat} (h : MemV w m s W D) (hk : Keep fp w w') (hn : m ∉ fp) : MemV w' m s W D := ⟨hk.blk h.blk hn, h.wl, h.dl⟩

def page (W : List Int) (n : Nat) : List Int := (W.drop (n * 8)).take 8
theorem page_length {W : List Int} (h : W.length = 112) {n : Nat} (hn : n < 14) : (page W n).length = 8 := by simp [page, h]; omega

section
variable {s : Nat} {W : List Int} {D : List Bool}
theorem mcells_length (h : W.length = 112) (h' : D.length = 14) : (mcells s W D).length = 127 := by simp [mcells, ints_length, bools_length, h, h']
theorem mcells_one : ∀ u ∈ mcells s W D, u.oneCell' = true := by
  intro u hu
  rcases List.mem_cons.1 hu with rfl | hu
  · rfl
  · rcases List.mem_append.1 hu with hu | hu
    · exact ints_one _ u hu
    · exact bools_one _ u hu
theorem m_at (h : W.length = 112) {i : Nat} (hi : i < 112) : (mcells s W D)[0 + 1 + i * 1]? = some (.int .i64 (W.getD i 0)) := by
  have e : 0 + 1 + i * 1 = i + 1 := by omega
  rw [e, mcells, List.getElem?_cons_succ, List.getElem?_append_left (by rw [ints_length]; omega)]
  simp [ints, List.getD_eq_getElem?_getD, h, hi]
theorem m_atD (h : W.length = 112) (h' : D.length = 14) {i : Nat} (hi : i < 14) : (mcells s W D)[113 + i]? = some (.bool (D.getD i false)) := by
  have e : 113 + i = (112 + i) + 1 := by omega
  rw [e, mcells, List.getElem?_cons_succ, List.getElem?_append_right (by rw [ints_length]; omega), ints_length, h, Nat.add_sub_cancel_left]
  simp [bools, List.getD_eq_getElem?_getD, h', hi]
theorem m_setW (h : W.length = 112) {i : Nat} (hi : i < 112) (x : Int) : splice (mcells s W D) (0 + 1 + i * 1) [.int .i64 x] = mcells s (W.set i x) D := by
  have := splice_mid [Value.pointer (some ⟨s, 0, none⟩)] (ints W) (bools D) [.int .i64 x] i (by rw [ints_length]; simp; omega)
  rw [splice_ints W i x (by omega)] at this
  rw [show 0 + 1 + i * 1 = [Value.pointer (some ⟨s, 0, none⟩)].length + i by simp]
  simpa [mcells] using this
theorem m_setWs {i : Nat} {ws : List Int} (hi : i + ws.length ≤ W.length) : splice (mcells s W D) (1 + i) (ints ws) = mcells s (W.take i ++ ws ++ W.drop (i + ws.length)) D := by
  have := splice_mid [Value.pointer (some ⟨s, 0, none⟩)] (ints W) (bools D) (ints ws) i (by rw [ints_length, ints_length]; omega)
  rw [show splice (ints W) i (ints ws) = ints (W.take i ++ ws ++ W.drop (i + ws.length)) by simp [splice, ints, List.map_take, List.map_drop]] at this
  rw [show 1 + i = [Value.pointer (some ⟨s, 0, none⟩)].length + i by simp]
  simpa [mcells] using this
theorem m_setD (h : W.length = 112) (h' : D.length = 14) {i : Nat} (hi : i < 14) (x : Bool) : splice (mcells s W D) (0 + 113 + i * 1) [.bool x] = mcells s W (D.set i x) := by
  have := splice_mid (Value.pointer (some ⟨s, 0, none⟩) :: ints W) (bools D) [] [.bool x] i (by rw [bools_length]; simp; omega)
  rw [splice_bools D i x (by omega)] at this
  rw [show 0 + 113 + i * 1 = (Value.pointer (some ⟨s, 0, none⟩) :: ints W).length + i by simp [ints_length, h]]
  simpa [mcells] using this
theorem m_setDs (h : W.length = 112) {D' : List Bool} (h' : D'.length = D.length) : splice (mcells s W D) 113 (bools D') = mcells s W D' := by
  have := splice_mid (Value.pointer (some ⟨s, 0, none⟩) :: ints W) (bools D) [] (bools D') 0 (by rw [bools_length, bools_length]; omega)
  rw [splice_all (by rw [bools_length, bools_length, h'])] at this
  rw [show 113 = (Value.pointer (some ⟨s, 0, none⟩) :: ints W).length + 0 by simp [ints_length, h]]
  simpa [mcells] using this
theorem m_page (h : W.length = 112) {n : Nat} (hn : n < 14) : ((mcells s W D).drop (1 + n * 8)).take 8 = ints (page W n) := by
  rw [Nat.add_comm, mcells, List.drop_succ_cons, List.drop_append_of_le_length (by rw [ints_length]; omega), List.take_append_of_le_length (by rw [List.length_drop, ints_length]; omega)]
  simp [page, ints, List.map_take, List.map_drop]
theorem m_words (h : W.length = 112) : ((mcells s W D).drop 1).take 112 = ints W := by
  rw [mcells, List.drop_succ_cons, List.drop_zero, List.take_append_of_le_length (by rw [ints_length]; omega), List.take_of_length_le (by rw [ints_length]; omega)]
theorem m_D (h : W.length = 112) (h' : D.length = 14) : ((mcells s W D).drop 113).take 14 = bools D := by
  rw [mcells, List.drop_succ_cons, List.drop_append, List.drop_eq_nil_of_le (by rw [ints_length]; omega), ints_length, h, List.nil_append, List.drop_zero, List.take_of_length_le (by rw [bools_length]; omega)]
end

/-- There is such a word. -/
def hasM (i : Int) : Bool := decide (0 ≤ i) && decide (i < 112)

theorem hasM_ret (i : Int) (w : World) : Ret Tryz.prog 64 [.int .i64 i] w fun v w' => v = .bool (hasM i) ∧ w' = w := by
  refine ret_of 9 Tryz.func64 rfl rfl (by simp) ?_
  refine au ?_
  by_cases h0 : 0 ≤ i
  · refine pl_val (.bool true) rfl rfl (val_int .i64 i 0 _ rfl rfl rfl (by simp [intOp, h0]) w) ?_
    refine au ?_
    refine pl_val (.bool (decide (i < 112))) rfl rfl (val_int .i64 i 112 _ rfl rfl rfl (by simp [intOp]) w) ?_
    refine au ?_
    refine rn_ret Tryz.func64 (.inl ⟨_, rfl, rfl⟩) ⟨?_, rfl⟩
    simp [hasM, h0]
  · refine pl_val (.bool false) rfl rfl (val_int .i64 i 0 _ rfl rfl rfl (by simp [intOp, h0]) w) ?_
    refine au ?_
    refine rn_ret Tryz.func64 (.inl ⟨_, rfl, rfl⟩) ⟨?_, rfl⟩
    simp [hasM, h0]

def loadW (W : List Int) (i : Int) : Int := if hasM i then W.getD i.toNat 0 else 0
def putW (W : List Int) (i x : Int) : List Int := if hasM i then W.set i.toNat x else W
def putD (W : List Int) (D : List Bool) (i x : Int) : List Bool := if hasM i then (if W.getD i.toNat 0 = x then D else D.set (i.toNat / 8) true) else D
theorem putW_length (W : List Int) (i x : Int) : (putW W i x).length = W.length := by unfold putW; split <;> simp
theorem putD_length (W : List Int) (D : List Bool) (i x : Int) : (putD W D i x).length = D.length := by
  unfold putD
  split
  · split <;> simp
  · rfl

section
variable {w : World} {m s : Nat} {W : List Int} {D : List Bool}

theorem load_ret (h : MemV w m s W D) (i : Int) : Ret Tryz.prog 46 [.pointer (some ⟨m, 0, none⟩), .int .i64 i] w fun v w' => v = .int .i64 (loadW W i) ∧ w' = w := by
  refine ret_of 14 Tryz.func46 rfl rfl (by simp) ?_
  refine au ?_
  refine pl_op rfl rfl (opTo_call rfl rfl rfl rfl (by decide +kernel) ((hasM_ret i w).mono ?_))
  rintro v w1 ⟨rfl, rfl⟩
  cases hb : hasM i with
  | false =>
    refine au ?_
    exact rn_ret Tryz.func46 (.inl ⟨_, rfl, rfl⟩) ⟨by simp [loadW, hb], rfl⟩
  | true =>
    have hi : 0 ≤ i ∧ i < 112 := by simpa [hasM] using hb
    refine au ?_
    refine pl_val _ rfl rfl (val_indexArr i.toNat hT rfl rfl rfl rfl (by omega) (by omega) w1) ?_
    refine pl_val (.int .i64 (W.getD i.toNat 0)) rfl rfl (val_load1 hT rfl rfl rfl (h.blk.cell (m_at h.wl (by omega)))) ?_
    refine au ?_
    exact rn_ret Tryz.func46 (.inl ⟨_, rfl, rfl⟩) ⟨by simp [loadW, hb], rfl⟩

theorem put_ret (h : MemV w m s W D) (i x : Int) : Ret Tryz.prog 60 [.pointer (some ⟨m, 0, none⟩), .int .i64 i, .int .i64 x] w fun v w' => v = .bool (hasM i) ∧ MemV w' m s (putW W i x) (putD W D i x) ∧ Keep [m] w w' := by
  refine ret_of 30 Tryz.func60 rfl rfl (by simp) ?_
  refine au ?_
  refine pl_op rfl rfl (opTo_call rfl rfl rfl rfl (by decide +kernel) ((hasM_ret i w).mono ?_))
  rintro v w1 ⟨rfl, rfl⟩
  cases hb : hasM i with
  | false =>
    refine au ?_
    refine rn_ret Tryz.func60 (.inl ⟨_, rfl, rfl⟩) ⟨rfl, ?_, Keep.refl _ _⟩
    simpa [putW, putD, hb] using h
  | true =>
    have hi : 0 ≤ i ∧ i < 112 := by simpa [hasM] using hb
    have hI : i = ((i.toNat : Nat) : Int) := by omega
    have hlt : i.toNat < 112 := by omega
    refine au ?_
    refine pl_val _ rfl rfl (val_indexArr i.toNat hT rfl rfl rfl rfl hI (by omega) w1) ?_
    refine pl_val (.int .i64 (W.getD i.toNat 0)) rfl rfl (val_load1 hT rfl rfl rfl (h.blk.cell (m_at h.wl (by omega)))) ?_
    refine au ?_
    by_cases hx : W.getD i.toNat 0 = x
    · refine pl_val (.bool false) rfl rfl (val_int .i64 _ x _ rfl rfl rfl (by simp only [intOp, hx, bne_self_eq_false]) w1) ?_
      refine au ?_
      refine rn_ret Tryz.func60 (.inl ⟨_, rfl, rfl⟩) ⟨rfl, ?_, Keep.refl _ _⟩
      have e : W.set i.toNat x = W := by
        apply List.ext_getElem?
        intro j
        rw [List.getElem?_set]
        split
        · rename_i e
          subst e
          rw [if_pos (by rw [h.wl]; omega), ← hx, List.getD_eq_getElem?_getD, List.getElem?_eq_getElem (by rw [h.wl]; omega)]
          rfl
        · rfl
      simp only [putW, putD, hb, if_true, hx, e]
      exact h
    · refine pl_val (.bool true) rfl rfl (val_int .i64 _ x _ rfl rfl rfl (by simp only [intOp]; rw [show (W.getD i.toNat 0 != x) = true by simpa using hx]) w1) ?_
      refine au ?_
      refine pl_val _ rfl rfl (val_indexArr i.toNat hT rfl rfl rfl rfl hI (by omega) w1) ?_
      refine pl_op rfl rfl (opTo_store [.int .i64 x] rfl rfl rfl rfl (by kernel_rfl) h.blk (by rw [mcells_length h.wl h.dl]; simp; omega) (by simp; rfl) ?_)
      rw [m_setW h.wl hlt]
      have hk2 : Keep [m] w1 (w1.setRow m (mcells s (W.set i.toNat x) D).toArray) := (Keep.refl _ _).setRow _ _ (.inl (by simp))
      have h2 : MemV (w1.setRow m (mcells s (W.set i.toNat x) D).toArray) m s (W.set i.toNat x) D := ⟨h.blk.set _, by simpa using h.wl, h.dl⟩
      generalize (w1.setRow m (mcells s (W.set i.toNat x) D).toArray) = w2 at *
      refine au ?_
      refine pl_val (.int .i64 ((i.toNat / 8 : Nat) : Int)) rfl rfl (val_quo .i64 i 8 _ rfl rfl rfl (by decide) (by rw [hI]; exact quo8 i.toNat (by omega)) w2) ?_
      refine au ?_
      refine pl_val _ rfl rfl (val_indexArr (i.toNat / 8) hT rfl rfl rfl rfl rfl (by omega) w2) ?_
      refine pl_op rfl rfl (opTo_store [.bool true] rfl rfl rfl rfl (by kernel_rfl) h2.blk (by rw [mcells_length h2.wl h2.dl]; simp; omega) (by simp; rfl) ?_)
      rw [m_setD h2.wl h2.dl (by omega)]
      refine au ?_
      refine rn_ret Tryz.func60 (.inl ⟨_, rfl, rfl⟩) ⟨rfl, ?_, hk2.setRow _ _ (.inl (by simp))⟩
      simp only [putW, putD, hb, if_true, hx, if_false]
      exact ⟨h2.blk.set _, h2.wl, by simpa using h2.dl⟩

theorem cloneI_ret {b q : Nat} {cs : List Value} (hr : w.rangeAt b q cs) (hl : cs.length = 112) (h1 : ∀ u ∈ cs, u.oneCell' = true) :
    Ret Tryz.prog 21 [.slice (some ⟨b, q, none⟩) 112 112] w fun v w' => ∃ g cap, v = .slice (some ⟨g, 0, none⟩) 112 cap ∧ w'.ownsRow w.heap.size 2 1 v 112 cs ∧ Keep [] w w' := by
  refine ret_of 8 Tryz.func21 rfl rfl (by simp) ?_
  refine au ?_
  refine pl_val (.bool false) rfl rfl (val_notNil hT rfl rfl rfl w) ?_
  refine au ?_
  refine pl_op rfl rfl (opTo_buildSlice 2 [] rfl rfl (by kernel_rfl) ?_)
  have hk1 : Keep [] w (w.alloc (.cells ([] : List Value).toArray 2)) := (Keep.refl _ _).alloc _
  have hb1 : Blk (w.alloc (.cells ([] : List Value).toArray 2)) w.heap.size [] 2 := Blk.new _ _ _
  have hr1 : (w.alloc (.cells ([] : List Value).toArray 2)).rangeAt b q cs := World.rangeAt_alloc hr _
  generalize (w.alloc (.cells ([] : List Value).toArray 2)) = w1 at *
  refine au ?_
  refine pl_op rfl rfl (opTo_append w.heap.size 2 1 8 [] cs rfl rfl rfl (by decide +kernel) (by decide) ⟨rfl, .inr ⟨w.heap.size, 0, #[], rfl, Nat.le_refl _, hb1, Nat.le_refl _, by decide, rfl, rfl⟩⟩ hr1 hl h1 (by decide) (by decide) (by decide) (by have := hk1.size; omega) ?_)
  intro g cap w2 hown hgrow hat hlt
  refine au ?_
  refine rn_ret Tryz.func21 (.inl ⟨_, rfl, rfl⟩) ⟨g, cap, rfl, by simpa using hown, hk1.grown hgrow fun k e => ?_⟩
  simp only [Value.ownBlock, Option.some.injEq] at e
  exact .inr (by omega)

/-- A slice of 112 words, from a block's head on. -/
def Wds (w : World) (v : Value) (W : List Int) : Prop := ∃ g cap cur, v = .slice (some ⟨g, 0, none⟩) 112 cap ∧ W.length = 112 ∧ Blk w g cur 2 ∧ cur.take 112 = ints W

theorem Wds.keep {w w' : World} {v : Value} {W : List Int} {fp : List Nat} (h : Wds w v W) (hk : Keep fp w w') (hn : ∀ k L, k ∈ fp → ¬ Blk w k L 2) : Wds w' v W := by
  obtain ⟨g, cap, cur, rfl, hl, hb, ht⟩ := h
  exact ⟨g, cap, cur, rfl, hl, hk.blk hb fun hm => hn g cur hm hb, ht⟩
theorem Wds.keep0 {w w' : World} {v : Value} {W : List Int} (h : Wds w v W) (hk : Keep [] w w') : Wds w' v W := h.keep hk (by simp)
theorem Wds.at {w : World} {v : Value} {W : List Int} (h : Wds w v W) : ∃ g cap, v = .slice (some ⟨g, 0, none⟩) 112 cap ∧ g < w.heap.size ∧ w.rangeAt g 0 (ints W) ∧ ∀ k, k < 112 → w.cell? ⟨g, 0 + k * 1, none⟩ = some (.int .i64 (W.getD k 0)) := by
  obtain ⟨g, cap, cur, rfl, hl, hb, ht⟩ := h
  refine ⟨g, cap, rfl, hb.lt, hb.range (by rw [ints_length, hl, List.drop_zero]; exact ht), fun k hk => hb.cell ?_⟩
  have e : (cur.take 112)[k]? = cur[k]? := by rw [List.getElem?_take, if_pos hk]
  rw [Nat.mul_one, Nat.zero_add, ← e, ht, List.getD_eq_getElem?_getD, List.getElem?_eq_getElem (show k < W.length by omega)]
  simp only [ints, List.getElem?_map, List.getElem?_eq_getElem (show k < W.length by omega)]
  rfl

theorem owns_wds {w : World} {B g cap : Nat} {W : List Int} (h : w.ownsRow B 2 1 (.slice (some ⟨g, 0, none⟩) 112 cap) 112 (ints W)) (hl : W.length = 112) : Wds w (.slice (some ⟨g, 0, none⟩) 112 cap) W := by
  rcases h.2 with ⟨h1, _⟩ | ⟨g', cap', cur, h1, hb, hg, r⟩
  · cases h1
  · injection h1 with e1 e2 e3
    cases e1
    refine ⟨g, cap, cur.toList, rfl, hl, ?_, ?_⟩
    · unfold Blk
      rw [Array.toArray_toList]
      exact hg
    · have := r.2.2.2
      simpa using this

theorem all_ret (h : MemV w m s W D) : Ret Tryz.prog 14 [.pointer (some ⟨m, 0, none⟩)] w fun v w' => Wds w' v W ∧ Keep [] w w' := by
  refine ret_of 8 Tryz.func14 rfl rfl (by simp) ?_
  refine au ?_
  refine pl_val _ rfl rfl (val_sliceArr hT rfl rfl rfl w) ?_
  refine pl_op rfl rfl (opTo_call rfl rfl rfl rfl (by decide +kernel) ((cloneI_ret (cs := ints W) (h.blk.range (by rw [ints_length, h.wl]; exact m_words h.wl)) (by rw [ints_length, h.wl]) (ints_one W)).mono ?_))
  rintro v w1 ⟨g, cap, rfl, ho, hk⟩
  refine au ?_
  exact rn_ret Tryz.func14 (.inl ⟨_, rfl, rfl⟩) ⟨owns_wds ho h.wl, hk⟩
end
end E
end Go.Proofs.YtmplkogkphmmjagGreat

/- The contracts of a memory's page, Dirty, New. -/
namespace Go.Proofs.YtmplkogkphmmjagGreat
set_option maxRecDepth 20000
set_option maxHeartbeats 4000000
namespace E
open Go.Proofs

theorem built_pg0 (i : Int) : Tryz.prog.built 168 [(0, Value.int .i64 i)] = some (pcell (i, List.replicate 8 0)).toArray := by kernel_rfl

section
variable {w : World} {m s : Nat} {W : List Int} {D : List Bool}

theorem page_ret (h : MemV w m s W D) {n : Nat} (hn : n < 14) : Ret Tryz.prog 111 [.pointer (some ⟨m, 0, none⟩), .int .i64 (n : Nat)] w fun v w' => v = .agg (pcell ((n : Nat), page W n)).toArray ∧ Keep [] w w' := by
  refine ret_of 18 Tryz.func111 rfl rfl (by simp) ?_
  refine au ?_
  refine pl_op rfl rfl (opTo_alloc _ rfl zero_page ?_)
  have hk1 : Keep [] w (w.alloc (.cells (pcell (0, List.replicate 8 0)).toArray 168)) := (Keep.refl _ _).alloc _
  have hr1 := Blk.new w (pcell (0, List.replicate 8 0)) 168
  generalize (w.alloc (.cells (pcell (0, List.replicate 8 0)).toArray 168)) = w1 at *
  refine au ?_
  refine pl_val _ rfl rfl (val_build _ rfl rfl (built_pg0 (n : Nat)) w1) ?_
  refine pl_op rfl rfl (opTo_alloc _ rfl zero_page ?_)
  have hk2 := hk1.alloc (.cells (pcell (0, List.replicate 8 0)).toArray 168)
  have hr2 := hr1.alloc (.cells (pcell (0, List.replicate 8 0)).toArray 168)
  have hp2 := Blk.new w1 (pcell (0, List.replicate 8 0)) 168
  have hne : w.heap.size ≠ w1.heap.size := by have := hr1.lt; omega
  have hle := hk1.size
  generalize (w1.alloc (.cells (pcell (0, List.replicate 8 0)).toArray 168)) = w2 at *
  generalize w1.heap.size = p at *
  refine pl_op rfl rfl (opTo_store (pcell ((n : Nat), List.replicate 8 0)) rfl rfl rfl rfl (by rw [pcell_length rfl]; decide +kernel) hp2 (by rw [pcell_length rfl]; decide) (pcell_one _) ?_)
  rw [splice_all (by rfl)]
  have hk3 := hk2.setRow p (pcell ((n : Nat), List.replicate 8 0)).toArray (.inr hle)
  have hr3 := hr2.other (pcell ((n : Nat), List.replicate 8 0)).toArray hne
  have hp3 := hp2.set (pcell ((n : Nat), List.replicate 8 0))
  generalize (w2.setRow p (pcell ((n : Nat), List.replicate 8 0)).toArray) = w3 at *
  clear hk1 hk2 hr1 hr2 hp2
  refine au ?_
  refine rn_draw (fun _ => True) [] hMix ?_
  refine tk 0 ?_
  refine dr_any 1 _ rfl (by decide +kernel) rfl rfl (fun w' => val_sliceArr hT rfl rfl rfl w') ?_
  refine tk 2 ?_
  refine tk 3 ?_
  refine tk 4 ?_
  refine tk 5 ?_
  refine dr_any 6 (.int .i64 ((n * 8 : Nat) : Int)) rfl (by decide +kernel) rfl rfl (fun w' => val_int .i64 n 8 _ rfl rfl rfl (by simp only [intOp]; rw [wrap_i64 (by omega) (by omega)]; simp) w') ?_
  refine dr_any 7 _ rfl (by decide +kernel) rfl rfl (fun w' => val_sliceArrFrom (n * 8) hT rfl rfl rfl rfl rfl (by omega) w') ?_
  have hm3 := (h.keep hk3 (by simp)).blk
  have hm4 : Blk w3.drew m (mcells s W D) 57 := hm3
  have hp4 : Blk w3.drew p (pcell ((n : Nat), List.replicate 8 0)) 168 := hp3
  have h8 := page_length h.wl hn
  refine dr_op 8 rfl (by decide +kernel) rfl rfl (opTo_copy (ints (page W n)) rfl rfl rfl (by decide +kernel) hp4 (by rw [ints_length, h8]; show 8 = min (112 - n * 8) 8; omega) (hm4.range (by rw [ints_length, h8, Nat.mul_one]; exact m_page h.wl hn)) (by rw [ints_length, h8, pcell_length rfl]; decide) (ints_one _) fun r => ⟨fun _ => trivial, ?_⟩)
  rw [show splice (pcell (((n : Nat) : Int), List.replicate 8 0)) (0 + 1) (ints (page W n)) = pcell ((n : Nat), page W n) by
    obtain ⟨a, b, c, d, e, f, g, j, hl⟩ := list8 h8
    rw [hl]
    rfl]
  refine dr_done (by decide +kernel) ?_
  have hk5 := (hk3.drew).setRow p (pcell ((n : Nat), page W n)).toArray (.inr hle)
  have hr5 : Blk (w3.drew.setRow p (pcell ((n : Nat), page W n)).toArray) w.heap.size (pcell (0, List.replicate 8 0)) 168 := Blk.other (w := w3.drew) hr3 _ hne
  have hp5 := hp4.set (pcell ((n : Nat), page W n))
  generalize (w3.drew.setRow p (pcell ((n : Nat), page W n)).toArray) = w5 at *
  have h9 : (pcell ((n : Nat), page W n)).length = 9 := pcell_length h8
  refine au ?_
  refine pl_val (.agg (pcell ((n : Nat), page W n)).toArray) rfl rfl (val_load _ hT rfl rfl (by rw [h9]; rfl) (hp5.range (by simp))) ?_
  refine pl_op rfl rfl (opTo_store _ rfl rfl rfl rfl (by rw [h9]; decide +kernel) hr5 (by rw [h9]; decide) (pcell_one _) ?_)
  rw [splice_all (by rw [h9]; rfl)]
  refine au ?_
  exact rn_ret Tryz.func111 (.inr (.inr (.inl ⟨_, _, _, rfl, rfl, loadVar_agg hT (cs := pcell ((n : Nat), page W n)) (by rw [h9]; rfl) ((hr5.set _).range (by simp))⟩))) ⟨rfl, hk5.setRow _ _ (.inr (Nat.le_refl _))⟩

/-- The dirty pages below j. -/
def dirtyTo (W : List Int) (D : List Bool) (j : Nat) : List Pg := ((List.range j).filter fun n => D.getD n false).map fun n => ((n : Nat), page W n)
def dirtyPs (W : List Int) (D : List Bool) : List Pg := dirtyTo W D 14
theorem dirtyTo_succ (W : List Int) (D : List Bool) (j : Nat) : dirtyTo W D (j + 1) = if D.getD j false then dirtyTo W D j ++ [(((j : Nat) : Int), page W j)] else dirtyTo W D j := by
  unfold dirtyTo
  have e : [j].filter (fun n => D.getD n false) = if D.getD j false then [j] else [] := by simp only [List.filter_cons, List.filter_nil]
  rw [List.range_succ, List.filter_append, List.map_append, e]
  cases D.getD j false
  · simp only [Bool.false_eq_true, if_false, List.map_nil, List.append_nil]
  · simp only [if_true, List.map_cons, List.map_nil]
theorem dirtyTo_len (W : List Int) (D : List Bool) (j : Nat) : (dirtyTo W D j).length ≤ j := by
  unfold dirtyTo
  rw [List.length_map]
  exact Nat.le_trans (List.length_filter_le _ _) (by simp)
theorem dirtyTo_wf {W : List Int} (h : W.length = 112) (D : List Bool) {j : Nat} (hj : j ≤ 14) : ∀ p ∈ dirtyTo W D j, p.2.length = 8 := by
  intro p hp
  obtain ⟨n, hn, rfl⟩ := List.mem_map.1 hp
  have := List.mem_range.1 (List.mem_filter.1 hn).1
  exact page_length h (by omega)

theorem pcells_snoc (l : List Pg) (p : Pg) : pcells (l ++ [p]) = pcells l ++ pcell p := by simp [pcells]

theorem own_spgs {w : World} {B : Nat} {v : Value} {ps : List Pg} (h : Own w B 168 9 v ps.length (pcells ps)) (hwf : ∀ p ∈ ps, p.2.length = 8) : Pgs w.heap.size w v ps := by
  obtain ⟨a, cap, hv⟩ := h.form
  refine ⟨⟨a, cap, hv, fun hne => ?_⟩, hwf, Nat.le_refl _⟩
  have h0 : 0 < ps.length := List.length_pos_iff.2 hne
  obtain ⟨g, cap', hv', hr⟩ := h.range (q := 0) (cs := pcells ps) (by simp) h0
  rw [hv] at hv'
  injection hv' with e1 e2 e3
  refine ⟨g, 0, e1, (h.lt g ?_).2, hr⟩
  rw [hv, e1]
  rfl

theorem dirty_ret (h : MemV w m s W D) : Ret Tryz.prog 100 [.pointer (some ⟨m, 0, none⟩)] w fun v w' => Pgs w'.heap.size w' v (dirtyPs W D) ∧ Keep [] w w' := by
  refine ret_of 23 Tryz.func100 rfl rfl (by simp) ?_
  refine au ?_
  refine pl_val (.agg (bools D).toArray) rfl rfl (val_load _ hT rfl rfl (by rw [bools_length, h.dl]; rfl) (h.blk.range (by rw [bools_length, h.dl]; exact m_D h.wl h.dl))) ?_
  refine au ?_
  refine rn_ind (fun q σ w' => ∃ j rv, q = 14 - j ∧ j ≤ 14 ∧ σ = [(0, .pointer (some ⟨m, 0, none⟩)), (3, rv), (9, .agg (bools D).toArray), (10, .int .i64 (j : Nat))] ∧ Keep [] w w' ∧ Own w' w.heap.size 168 9 rv (dirtyTo W D j).length (pcells (dirtyTo W D j)))
    (14 - 0) _ ?_ ⟨0, _, rfl, by decide, rfl, Keep.refl _ _, Own.nil _ _ _ _⟩ ?_
  · exact ⟨rfl, rfl, rfl, rfl, trivial⟩
  rintro q σ w1 ih ⟨j, rv, hq, hj, rfl, hk1, ho1⟩
  refine au ?_
  rcases Nat.lt_or_ge j 14 with hlt | hge
  · refine pl_val (.bool true) rfl rfl (val_int .i64 _ _ _ rfl rfl rfl (by simp [intOp]; omega) w1) ?_
    refine au ?_
    refine pl_val (.bool (D.getD j false)) rfl rfl (val_atB (bools D) _ j (len := 14) (by decide +kernel) rfl rfl rfl rfl hlt (by simp [bools, List.getD_eq_getElem?_getD, h.dl, hlt]) w1) ?_
    cases hb : D.getD j false with
    | false =>
      refine au ?_
      refine pl_val (.int .i64 ((j + 1 : Nat) : Int)) rfl rfl (val_int .i64 j 1 _ rfl rfl rfl (by simp only [intOp]; rw [wrap_i64 (by omega) (by omega)]; rfl) w1) ?_
      refine au ?_
      refine rn_sub ?_ (ih (14 - (j + 1)) _ w1 (by omega) ⟨j + 1, rv, rfl, hlt, rfl, hk1, by rw [dirtyTo_succ, hb]; exact ho1⟩)
      exact ⟨rfl, rfl, rfl, rfl, trivial⟩
    | true =>
      refine au ?_
      refine pl_op rfl rfl (opTo_call rfl rfl rfl rfl (by decide +kernel) ((page_ret (h.keep hk1 (by simp)) hlt).mono ?_))
      rintro v w2 ⟨rfl, hk2⟩
      have h8 := page_length h.wl hlt
      refine pl_op rfl rfl (opTo_buildSlice _ _ rfl rfl (slice_pg (j : Nat) h8) ?_)
      have hk3 := hk2.alloc (.cells (pcell ((j : Nat), page W j)).toArray 168)
      have hy3 := Blk.new w2 (pcell ((j : Nat), page W j)) 168
      generalize (w2.alloc (.cells (pcell ((j : Nat), page W j)).toArray 168)) = w3 at *
      have ho3 := ho1.keep hk3 (by simp)
      have hkw3 := hk1.tr0 hk3
      have hlt3 := ho3.lt
      have hll := dirtyTo_len W D j
      refine pl_op rfl rfl (opTo_app w.heap.size 168 9 72 (pcells (dirtyTo W D j)) (pcell ((j : Nat), page W j)) rfl rfl rfl (by decide +kernel) ho3 (hy3.range (by simp)) (by rw [pcell_length h8]) (pcell_one _) (by decide) (by unfold maxLen; omega) (by omega) hkw3.size ?_)
      intro g cap' w4 hown hor
      have hk4 : Keep rv.ownBlock.toList w3 w4 := by
        rcases hor with ⟨e, _, hk⟩ | ⟨_, hk, _⟩
        · rw [e]; exact hk
        · exact hk.of0
      have hkw4 : Keep [] w w4 := hkw3.trans hk4 fun k hk => .inr (hlt3 k (by simpa using hk)).1
      refine au ?_
      refine pl_val (.int .i64 ((j + 1 : Nat) : Int)) rfl rfl (val_int .i64 j 1 _ rfl rfl rfl (by simp only [intOp]; rw [wrap_i64 (by omega) (by omega)]; rfl) w4) ?_
      refine au ?_
      refine rn_sub ?_ (ih (14 - (j + 1)) _ w4 (by omega) ⟨j + 1, .slice (some ⟨g, 0, none⟩) ((dirtyTo W D j).length + 1) cap', rfl, hlt, rfl, hkw4, ?_⟩)
      · exact ⟨rfl, rfl, rfl, rfl, trivial⟩
      · rw [dirtyTo_succ, hb, if_pos rfl, pcells_snoc, List.length_append]
        exact hown
  · refine pl_val (.bool false) rfl rfl (val_int .i64 _ _ _ rfl rfl rfl (by simp [intOp]; omega) w1) ?_
    have hj14 : j = 14 := by omega
    subst hj14
    refine au ?_
    exact rn_ret Tryz.func100 (.inl ⟨_, rfl, rfl⟩) ⟨own_spgs ho1 (dirtyTo_wf h.wl D (by decide)), hk1⟩

/-- The words of a store's pages, one behind the other. -/
def catS (S : List Int) (j : Nat) : List Int := (List.range j).flatMap fun i => readS S (i : Nat)
def allS (S : List Int) : List Int := catS S 14
theorem catS_length {S : List Int} (hS : S.length = 272) : ∀ j, (catS S j).length = j * 8
  | 0 => rfl
  | j + 1 => by
    have := catS_length hS j
    unfold catS at *
    rw [List.range_succ, List.flatMap_append, List.length_append, this]
    simp [readS_length hS]
    omega
theorem catS_succ (S : List Int) (j : Nat) : catS S (j + 1) = catS S j ++ readS S (j : Nat) := by
  unfold catS
  rw [List.range_succ, List.flatMap_append]
  simp

theorem built_mem (s : Nat) : Tryz.prog.built 57 [(0, Value.pointer (some ⟨s, 0, none⟩))] = some (mcells s (List.replicate 112 0) (List.replicate 14 false)).toArray := by kernel_rfl

def newW (S : List Int) (j : Nat) : List Int := catS S j ++ List.replicate (112 - j * 8) 0
theorem newW_length {S : List Int} (hS : S.length = 272) {j : Nat} (hj : j ≤ 14) : (newW S j).length = 112 := by
  simp [newW, catS_length hS]; omega
theorem newW_succ {S : List Int} (hS : S.length = 272) {j : Nat} (hj : j < 14) : (newW S j).take (j * 8) ++ readS S (j : Nat) ++ (newW S j).drop (j * 8 + (readS S (j : Nat)).length) = newW S (j + 1) := by
  have hl := catS_length hS j
  rw [readS_length hS]
  unfold newW
  rw [List.take_append_of_le_length (by omega), List.take_of_length_le (by omega), List.drop_append, List.drop_eq_nil_of_le (by omega), List.nil_append, hl, List.drop_replicate, catS_succ]
  congr 2
  omega

theorem mnew_ret {B d : Nat} {S : List Int} {L : List Wr} {wv : Value} (hs : StoreV w s d) (hd : DiskV B w d S L wv) :
    Ret Tryz.prog 41 [.pointer (some ⟨s, 0, none⟩)] w fun v w' => ∃ m, v = .pointer (some ⟨m, 0, none⟩) ∧ w.heap.size ≤ m ∧ MemV w' m s (allS S) (List.replicate 14 false) ∧ Keep [] w w' := by
  refine ret_of 28 Tryz.func41 rfl rfl (by simp) ?_
  refine au ?_
  refine pl_val _ rfl rfl (val_build _ rfl rfl (built_mem s) w) ?_
  refine pl_op rfl rfl (opTo_box _ rfl rfl rfl ?_)
  have hk1 : Keep [] w (w.alloc (.cells (mcells s (List.replicate 112 0) (List.replicate 14 false)).toArray 57)) := (Keep.refl _ _).alloc _
  have hm1 : MemV (w.alloc (.cells (mcells s (List.replicate 112 0) (List.replicate 14 false)).toArray 57)) w.heap.size s (newW S 0) (List.replicate 14 false) := ⟨Blk.new _ _ _, by simp [newW, catS], by simp⟩
  generalize (w.alloc (.cells (mcells s (List.replicate 112 0) (List.replicate 14 false)).toArray 57)) = w1 at *
  refine au ?_
  refine rn_ind (fun q σ w' => ∃ j, q = 14 - j ∧ j ≤ 14 ∧ σ = [(3, .pointer (some ⟨w.heap.size, 0, none⟩)), (9, .int .i64 (j : Nat))] ∧ Keep [] w w' ∧ MemV w' w.heap.size s (newW S j) (List.replicate 14 false))
    (14 - 0) _ ?_ ⟨0, rfl, by decide, rfl, hk1, hm1⟩ ?_
  · exact ⟨rfl, rfl, trivial⟩
  clear hk1 hm1
  rintro q σ w2 ih ⟨j, hq, hj, rfl, hk2, hm2⟩
  refine au ?_
  rcases Nat.lt_or_ge j 14 with hlt | hge
  · refine pl_val (.bool true) rfl rfl (val_int .i64 _ _ _ rfl rfl rfl (by simp [intOp]; omega) w2) ?_
    refine au ?_
    refine pl_val (.pointer (some ⟨s, 0, none⟩)) rfl rfl (val_load1 hT rfl rfl rfl (hm2.blk.cell rfl)) ?_
    refine au ?_
    refine pl_op rfl rfl (opTo_call rfl rfl rfl rfl (by decide +kernel) ((sread_ret (hk2.blk hs (by simp)) (hd.keep hk2 (by simp)) (j : Nat)).mono ?_))
    rintro v w3 ⟨rfl, hk3⟩
    have hkw3 := hk2.tr0 hk3
    have hm3 := hm2.keep hk3 (by simp)
    have h8 := readS_length hd.len (j : Nat)
    refine pl_op rfl rfl (opTo_alloc _ rfl zero_words ?_)
    have hk4 := hkw3.alloc (.cells (ints (List.replicate 8 0)).toArray 109)
    have hx4 := Blk.new w3 (ints (List.replicate 8 0)) 109
    have hm4 := hm3.keep ((Keep.refl [] w3).alloc (.cells (ints (List.replicate 8 0)).toArray 109)) (by simp)
    have hle := hkw3.size
    have hne : w.heap.size ≠ w3.heap.size := by have := hm3.blk.lt; omega
    generalize (w3.alloc (.cells (ints (List.replicate 8 0)).toArray 109)) = w4 at *
    generalize w3.heap.size = x at *
    refine pl_op rfl rfl (opTo_store _ rfl rfl rfl rfl (by rw [ints_length, h8]; decide +kernel) hx4 (by rw [ints_length, h8]; decide) (ints_one _) ?_)
    rw [splice_all (by rw [ints_length, h8]; rfl)]
    have hk5 := hk4.setRow x (ints (readS S (j : Nat))).toArray (.inr hle)
    have hx5 := hx4.set (ints (readS S (j : Nat)))
    have hm5 : MemV (w4.setRow x (ints (readS S (j : Nat))).toArray) w.heap.size s (newW S j) (List.replicate 14 false) := ⟨hm4.blk.other _ hne, hm4.wl, hm4.dl⟩
    generalize (w4.setRow x (ints (readS S (j : Nat))).toArray) = w5 at *
    refine au ?_
    refine rn_draw (fun _ => True) [] hMix ?_
    refine tk 0 ?_
    refine tk 1 ?_
    refine tk 2 ?_
    refine tk 3 ?_
    refine dr_any 4 (.int .i64 ((j * 8 : Nat) : Int)) rfl (by decide +kernel) rfl rfl (fun w' => val_int .i64 j 8 _ rfl rfl rfl (by simp only [intOp]; rw [wrap_i64 (by omega) (by omega)]; simp) w') ?_
    refine dr_any 5 _ rfl (by decide +kernel) rfl rfl (fun w' => val_sliceArrFrom (j * 8) hT rfl rfl rfl rfl rfl (by omega) w') ?_
    refine dr_any 6 _ rfl (by decide +kernel) rfl rfl (fun w' => val_sliceArr hT rfl rfl rfl w') ?_
    have hb6 : Blk w5.drew w.heap.size (mcells s (newW S j) (List.replicate 14 false)) 57 := hm5.blk
    have hx6 : Blk w5.drew x (ints (readS S (j : Nat))) 109 := hx5
    refine dr_op 7 rfl (by decide +kernel) rfl rfl (opTo_copy (ints (readS S (j : Nat))) rfl rfl rfl (by decide +kernel) hb6 (by rw [ints_length, h8]; show 8 = min 8 (112 - j * 8); omega) (hx6.range (by simp)) (by rw [ints_length, h8, mcells_length hm5.wl hm5.dl]; omega) (ints_one _) fun r => ⟨fun _ => trivial, ?_⟩)
    rw [show 0 + 1 + j * 8 * 1 = 1 + j * 8 by omega, m_setWs (by rw [hm5.wl, h8]; omega), newW_succ hd.len hlt]
    refine dr_done (by decide +kernel) ?_
    have hk7 := (hk5.drew).setRow w.heap.size (mcells s (newW S (j + 1)) (List.replicate 14 false)).toArray (.inr (Nat.le_refl _))
    have hm7 : MemV (w5.drew.setRow w.heap.size (mcells s (newW S (j + 1)) (List.replicate 14 false)).toArray) w.heap.size s (newW S (j + 1)) (List.replicate 14 false) := ⟨hb6.set _, newW_length hd.len hlt, by simp⟩
    generalize (w5.drew.setRow w.heap.size (mcells s (newW S (j + 1)) (List.replicate 14 false)).toArray) = w7 at *
    refine au ?_
    refine pl_val (.int .i64 ((j + 1 : Nat) : Int)) rfl rfl (val_int .i64 j 1 _ rfl rfl rfl (by simp only [intOp]; rw [wrap_i64 (by omega) (by omega)]; rfl) w7) ?_
    refine au ?_
    refine rn_sub ?_ (ih (14 - (j + 1)) _ w7 (by omega) ⟨j + 1, rfl, hlt, rfl, hk7, hm7⟩)
    exact ⟨rfl, rfl, trivial⟩
  · refine pl_val (.bool false) rfl rfl (val_int .i64 _ _ _ rfl rfl rfl (by simp [intOp]; omega) w2) ?_
    have hj14 : j = 14 := by omega
    subst hj14
    refine au ?_
    refine rn_ret Tryz.func41 (.inl ⟨_, rfl, rfl⟩) ⟨_, rfl, Nat.le_refl _, ?_, hk2⟩
    have e : newW S 14 = allS S := by simp [newW, allS]
    rw [e] at hm2
    exact hm2
end
end E
end Go.Proofs.YtmplkogkphmmjagGreat

/- Plain mathematics of a memory: its words by pages, its dirty pages, what a sync makes of the store. -/
namespace Go.Proofs.YtmplkogkphmmjagGreat
set_option maxRecDepth 20000
set_option maxHeartbeats 4000000
namespace E

theorem page_at {W : List Int} {n k : Nat} (hk : k < 8) : (page W n)[k]? = W[n * 8 + k]? := by
  unfold page
  rw [List.getElem?_take, if_pos hk, List.getElem?_drop]
theorem pages_take (W : List Int) : ∀ j, (List.range j).flatMap (page W) = W.take (j * 8)
  | 0 => by simp
  | j + 1 => by
    rw [List.range_succ, List.flatMap_append, pages_take W j, Nat.succ_mul, List.take_add]
    simp [page]
theorem pages_all {W : List Int} (h : W.length = 112) : (List.range 14).flatMap (page W) = W := by
  rw [pages_take, List.take_of_length_le (by omega)]
theorem allS_eq {S W : List Int} (hW : W.length = 112) (h : ∀ n, n < 14 → readS S (n : Nat) = page W n) : allS S = W := by
  rw [← pages_all hW]
  unfold allS catS
  rw [List.flatMap_def, List.flatMap_def]
  congr 1
  exact List.map_congr_left fun x hx => h x (List.mem_range.1 hx)
theorem page_allS {S : List Int} (hS : S.length = 272) {n : Nat} (hn : n < 14) : page (allS S) n = readS S (n : Nat) := by
  unfold page allS catS
  have : ∀ (l : List Nat) (j : Nat) (p : Nat), l[j]? = some p → ((l.flatMap fun i => readS S (i : Nat)).drop (j * 8)).take 8 = readS S (p : Nat) := by
    intro l
    induction l with
    | nil => intro j p h; simp at h
    | cons a r ih =>
      intro j p h
      cases j with
      | zero =>
        simp at h
        subst h
        have := readS_length hS (a : Nat)
        rw [List.flatMap_cons, Nat.zero_mul, List.drop_zero, List.take_append_of_le_length (by omega), List.take_of_length_le (by omega)]
      | succ j =>
        simp only [List.getElem?_cons_succ] at h
        have h8 := readS_length hS (a : Nat)
        rw [List.flatMap_cons, Nat.succ_mul, Nat.add_comm, ← List.drop_drop, ← h8, List.drop_left, h8]
        exact ih j p h
  exact this _ n n (by rw [List.getElem?_range hn])
theorem allS_length {S : List Int} (hS : S.length = 272) : (allS S).length = 112 := by rw [allS, catS_length hS]

/-- The pages that are not dirty are as the store has them. -/
def Tied (S W : List Int) (D : List Bool) : Prop := ∀ n, n < 14 → D.getD n false = false → readS S (n : Nat) = page W n

theorem lookI_dirtyTo (W : List Int) (D : List Bool) : ∀ (j n : Nat), lookI (dirtyTo W D j) (n : Nat) = if n < j ∧ D.getD n false = true then some (page W n) else none
  | 0, n => by simp [dirtyTo, lookI]
  | j + 1, n => by
    rw [dirtyTo_succ]
    have ih := lookI_dirtyTo W D j n
    cases hb : D.getD j false with
    | false =>
      rw [if_neg (by simp), ih]
      by_cases e : n = j
      · subst e
        rw [if_neg (by omega), if_neg (by rw [hb]; simp)]
      · have : (n < j + 1 ∧ D.getD n false = true) ↔ (n < j ∧ D.getD n false = true) := by constructor <;> (rintro ⟨h1, h2⟩; exact ⟨by omega, h2⟩)
        simp only [this]
    | true =>
      rw [if_pos rfl, lookI_snoc]
      by_cases e : n = j
      · subst e
        rw [if_pos rfl, if_pos ⟨by omega, hb⟩]
      · rw [if_neg (by simp only; omega), ih]
        have : (n < j + 1 ∧ D.getD n false = true) ↔ (n < j ∧ D.getD n false = true) := by constructor <;> (rintro ⟨h1, h2⟩; exact ⟨by omega, h2⟩)
        simp only [this]

theorem chkFrom_snoc : ∀ (ps : List Pg) (done : List Int) (p : Pg), chkFrom done ps = 0 → hasP p.1 = true → (done ++ ps.map (·.1)).contains p.1 = false → chkFrom done (ps ++ [p]) = 0
  | [], done, p, _, h2, h3 => by
    simp only [List.map_nil, List.append_nil] at h3
    simp only [List.nil_append, chkFrom]
    rw [if_neg (by simp [h2]), if_neg (by rw [h3]; simp)]
  | q :: r, done, p, h1, h2, h3 => by
    unfold chkFrom at h1
    simp only [List.cons_append]
    unfold chkFrom
    split at h1
    · cases h1
    · rename_i hq
      split at h1
      · cases h1
      · rename_i hc
        rw [if_neg hq, if_neg hc]
        exact chkFrom_snoc r _ p h1 h2 (by simpa [List.append_assoc] using h3)

theorem chk_dirtyTo (W : List Int) (D : List Bool) : ∀ j, j ≤ 14 → chk (dirtyTo W D j) = 0
  | 0, _ => by simp [dirtyTo, chk, chkFrom]
  | j + 1, h => by
    rw [dirtyTo_succ]
    have ih := chk_dirtyTo W D j (by omega)
    split
    · refine chkFrom_snoc _ [] _ ih (by simp [hasP]; omega) ?_
      cases hc : (([] : List Int) ++ (dirtyTo W D j).map (fun p : Pg => p.1)).contains ((j : Nat) : Int) with
      | false => rfl
      | true =>
        rw [List.contains_iff_mem] at hc
        simp only [List.nil_append, List.mem_map] at hc
        obtain ⟨p, hp, e⟩ := hc
        obtain ⟨n, hn, rfl⟩ := List.mem_map.1 hp
        have := List.mem_range.1 (List.mem_filter.1 hn).1
        omega
    · exact ih
theorem chk_dirty (W : List Int) (D : List Bool) : chk (dirtyPs W D) = 0 := chk_dirtyTo W D 14 (by decide)

theorem New.all {S S2 W : List Int} {D : List Bool} (h : New S (dirtyPs W D) S2) (ht : Tied S W D) : ∀ n, n < 14 → readS S2 (n : Nat) = page W n := fun n hn => by
  rw [h.look (chk_dirty W D), dirtyPs, lookI_dirtyTo]
  cases hb : D.getD n false with
  | true => rw [if_pos ⟨hn, rfl⟩]; rfl
  | false => rw [if_neg (by simp)]; exact ht n hn hb

theorem page_set {W : List Int} {i n : Nat} (x : Int) (hne : i / 8 ≠ n) : page (W.set i x) n = page W n := by
  apply List.ext_getElem?
  intro k
  by_cases hk : k < 8
  · rw [page_at hk, page_at hk, List.getElem?_set_ne (by omega)]
  · rw [List.getElem?_eq_none (by simp [page]; omega), List.getElem?_eq_none (by simp [page]; omega)]

theorem set_same {W : List Int} {i : Nat} {x : Int} (h : i < W.length) (hx : W.getD i 0 = x) : W.set i x = W := by
  apply List.ext_getElem?
  intro j
  rw [List.getElem?_set]
  split
  · rename_i e
    subst e
    rw [← hx, List.getD_eq_getElem?_getD, List.getElem?_eq_getElem h]
    rfl
  · rfl

theorem Tied.put {S W : List Int} {D : List Bool} (h : Tied S W D) (hW : W.length = 112) (hD : D.length = 14) (i x : Int) : Tied S (putW W i x) (putD W D i x) := by
  intro n hn hd
  unfold putW
  unfold putD at hd
  cases hb : hasM i with
  | false =>
    rw [hb] at hd
    simp only [Bool.false_eq_true, if_false] at hd ⊢
    exact h n hn hd
  | true =>
    have hi : 0 ≤ i ∧ i < 112 := by simpa [hasM] using hb
    rw [hb] at hd
    simp only [if_true] at hd ⊢
    by_cases hx : W.getD i.toNat 0 = x
    · rw [if_pos hx] at hd
      rw [set_same (by omega) hx]
      exact h n hn hd
    · rw [if_neg hx, List.getD_eq_getElem?_getD, List.getElem?_set] at hd
      by_cases e : i.toNat / 8 = n
      · rw [if_pos e, if_pos (by omega)] at hd
        cases hd
      · rw [if_neg e] at hd
        rw [page_set x e]
        exact h n hn (by rw [List.getD_eq_getElem?_getD]; exact hd)

theorem tied_new {S : List Int} (hS : S.length = 272) : Tied S (allS S) (List.replicate 14 false) := fun _ hn _ => (page_allS hS hn).symm
theorem tied_all {S W : List Int} (D : List Bool) (h : ∀ n, n < 14 → readS S (n : Nat) = page W n) : Tied S W D := fun n hn _ => h n hn

/-- No page is dirty. -/
theorem dirty_none {W : List Int} {D : List Bool} (h : ∀ n, n < 14 → D.getD n false = false) : dirtyPs W D = [] := by
  unfold dirtyPs dirtyTo
  rw [List.filter_eq_nil_iff.2 fun n hn => by rw [h n (List.mem_range.1 hn)]; simp]
  rfl
theorem clean_none (W : List Int) : dirtyPs W (List.replicate 14 false) = [] := dirty_none fun _ hn => by
  rw [List.getD_eq_getElem?_getD, List.getElem?_replicate, if_pos hn]
  rfl
end E
end Go.Proofs.YtmplkogkphmmjagGreat

/- The contract of a memory's Sync; SameLongs. -/
namespace Go.Proofs.YtmplkogkphmmjagGreat
set_option maxRecDepth 20000
set_option maxHeartbeats 4000000
namespace E
open Go.Proofs

theorem built_bools0 : Tryz.prog.built 55 [] = some (bools (List.replicate 14 false)).toArray := by kernel_rfl

/-- Is a sync done by so many deeds? -/
def doneB (ps : List Pg) (may : Int) : Bool := decide (may < 0 ∨ may ≥ (ps.length + 5 : Nat))
def deedsN (ps : List Pg) (may : Int) : Nat := if may < 0 ∨ may ≥ (ps.length + 5 : Nat) then ps.length + 5 else may.toNat

section
variable {B : Nat} {w : World} {m s d : Nat} {W : List Int} {D : List Bool} {S : List Int} {wv : Value}

theorem sync_ret (h : MemV w m s W D) (hs : StoreV w s d) (hd : DiskV B w d S [] wv) (hg1 : genS S < 1000000) (may : Int) :
    Ret Tryz.prog 89 [.pointer (some ⟨m, 0, none⟩), .int .i64 may] w fun v w' => v = .bool (doneB (dirtyPs W D) may) ∧
      MemV w' m s W (if doneB (dirtyPs W D) may then List.replicate 14 false else D) ∧ StoreV w' s d ∧ Keep (m :: fpD d wv) w w' ∧
      ∃ wv', DiskV B w' d (doDeeds ((deedsOf S (dirtyPs W D)).take (deedsN (dirtyPs W D) may)) (S, [])).1 (doDeeds ((deedsOf S (dirtyPs W D)).take (deedsN (dirtyPs W D) may)) (S, [])).2 wv' ∧ ∀ k ∈ fpD d wv', k ∈ fpD d wv ∨ w.heap.size ≤ k := by
  refine ret_of 24 Tryz.func89 rfl rfl (by simp) ?_
  have hps := chk_dirty W D
  have hlen : (dirtyPs W D).length ≤ 14 := dirtyTo_len W D 14
  refine au ?_
  have hb0 : Blk w.drew m (mcells s W D) 57 := h.blk
  refine rn_draw (fun w' => Blk w' m (mcells s W D) 57) [] hMix ?_
  refine tk 0 ?_
  refine tk 1 ?_
  refine tk 2 ?_
  refine dr_val 3 (.pointer (some ⟨s, 0, none⟩)) rfl (by decide +kernel) rfl rfl (fun w' hk => val_load1 hT rfl rfl rfl (hk.cell rfl)) hb0 ?_
  refine tk 4 ?_
  refine tk 6 ?_
  have hk0 : Keep [] w w.drew := (Keep.refl _ _).drew
  refine dr_op 5 rfl (by decide +kernel) rfl rfl (opTo_call rfl rfl rfl rfl (by decide +kernel) ((dirty_ret (h.keep hk0 (by simp))).mono ?_))
  rintro v w1 ⟨hp1, hk1⟩
  have hkw1 := hk0.tr0 hk1
  have h1 := h.keep hkw1 (by simp)
  have hs1 : StoreV w1 s d := hkw1.blk hs (by simp)
  have hd1 := hd.keep hkw1 (by simp)
  refine ⟨fun _ => h1.blk, ?_⟩
  have hm1 : m ∉ fpD d wv := not_fp hd1 h1.blk (by decide)
  have hsn : s ∉ fpD d wv := not_fp hd1 hs1 (by decide)
  refine dr_op 7 rfl (by decide +kernel) rfl rfl (opTo_call rfl rfl rfl rfl (by decide +kernel) ((commit_ret hs1 hd1 hp1 (by omega) (by decide) (genS_nonneg S) hg1 may hps (deedsN (dirtyPs W D) may) rfl).mono ?_))
  rintro v w2 ⟨rfl, wv2, hd2, hk2, hf2⟩
  have hkw2 : Keep (fpD d wv) w w2 := (hkw1.of0).tr hk2
  have h2 := h1.keep hk2 hm1
  have hs2 : StoreV w2 s d := hk2.blk hs1 hsn
  refine ⟨fun _ => h2.blk, ?_⟩
  have hfin : ∀ k ∈ fpD d wv2, k ∈ fpD d wv ∨ w.heap.size ≤ k := fun k hk => (hf2 k hk).imp id fun h1 => Nat.le_trans hkw1.size h1
  refine tk 8 ?_
  refine tk 9 ?_
  refine tk 10 ?_
  refine tk 11 ?_
  refine tk 12 ?_
  refine dr_done (by decide +kernel) ?_
  change Rn _ _ _ _ _ _ _
  rw [show decide (may < 0 ∨ may ≥ ((dirtyPs W D).length + 5 : Nat)) = doneB (dirtyPs W D) may from rfl]
  cases hb : doneB (dirtyPs W D) may with
  | false =>
    refine au ?_
    exact rn_ret Tryz.func89 (.inl ⟨_, rfl, rfl⟩) ⟨rfl, h2, hs2, hkw2.mono fun k hk => .inl (by simp [hk]), wv2, hd2, hfin⟩
  | true =>
    refine au ?_
    refine pl_val _ rfl rfl (val_build _ rfl rfl built_bools0 w2) ?_
    refine au ?_
    refine pl_op rfl rfl (opTo_store (bools (List.replicate 14 false)) rfl rfl rfl rfl (by kernel_rfl) h2.blk (by rw [mcells_length h2.wl h2.dl]; decide) (bools_one _) ?_)
    rw [show 0 + 113 = 113 from rfl, m_setDs h2.wl (by rw [h2.dl]; rfl)]
    have hk3 : Keep [m] w2 (w2.setRow m (mcells s W (List.replicate 14 false)).toArray) := (Keep.refl _ _).setRow _ _ (.inl (by simp))
    have hm2 : m ∉ fpD d wv2 := not_fp hd2 h2.blk (by decide)
    refine au ?_
    refine rn_ret Tryz.func89 (.inl ⟨_, rfl, rfl⟩) ⟨rfl, ⟨h2.blk.set _, h2.wl, by simp⟩, hk3.blk hs2 (by simp; exact Blk.ne hs2 h2.blk (by decide)), ?_, wv2, hd2.keep hk3 fun k hk hm => hm2 (by simp at hm; rw [← hm]; exact hk), hfin⟩
    exact (hkw2.mono fun k hk => .inl (by simp [hk])).trans hk3 fun k hk => .inl (by simp at hk; simp [hk])

theorem longs_ret {a b : Value} {A : List Int} (ha : Wds w a A) (hb : Wds w b A) : Ret Tryz.prog 15 [a, b] w fun v w' => v = .bool true ∧ Keep [] w w' := by
  refine ret_of 26 Tryz.func15 rfl rfl (by simp) ?_
  have hl : A.length = 112 := by obtain ⟨_, _, _, _, hl, _⟩ := ha; exact hl
  obtain ⟨ga, ca, rfl, hla, hra, _⟩ := ha.at
  obtain ⟨gb, cb, rfl, hlb, hrb, _⟩ := hb.at
  clear ha hb
  refine au ?_
  refine pl_val (.bool false) rfl rfl (val_int .i64 112 112 _ rfl rfl rfl rfl w) ?_
  refine au ?_
  refine rn_ind (fun q σ w' => ∃ j, q = 112 - j ∧ j ≤ 112 ∧ σ = [(0, .slice (some ⟨ga, 0, none⟩) 112 ca), (1, .slice (some ⟨gb, 0, none⟩) 112 cb), (5, .int .i64 (j : Nat))] ∧ Keep [] w w')
    (112 - 0) _ ?_ ⟨0, rfl, by decide, rfl, Keep.refl _ _⟩ ?_
  · exact ⟨rfl, rfl, rfl, trivial⟩
  rintro q σ w1 ih ⟨j, hq, hj, rfl, hk1⟩
  refine au ?_
  rcases Nat.lt_or_ge j 112 with hlt | hge
  · refine pl_val (.bool true) rfl rfl (val_int .i64 _ _ _ rfl rfl rfl (by simp [intOp]; omega) w1) ?_
    refine au ?_
    have hk0 : Keep [] w w1.drew := hk1.drew
    obtain ⟨x, hx⟩ : ∃ x, A[j]? = some x := ⟨_, List.getElem?_eq_getElem (by omega)⟩
    have hca : ∀ w', Keep [] w w' → w'.cell? ⟨ga, 0 + j * 1, none⟩ = some (.int .i64 x) := fun w' hk => by
      rw [Nat.mul_one]
      exact (hk.range hra hla (by simp)) j _ (by simp [ints, hx])
    have hcb : ∀ w', Keep [] w w' → w'.cell? ⟨gb, 0 + j * 1, none⟩ = some (.int .i64 x) := fun w' hk => by
      rw [Nat.mul_one]
      exact (hk.range hrb hlb (by simp)) j _ (by simp [ints, hx])
    refine rn_draw (fun w' => Keep [] w w') [] hMix ?_
    refine tk 0 ?_
    refine tk 1 ?_
    refine dr_any 2 _ rfl (by decide +kernel) rfl rfl (fun w' => val_index j hT rfl rfl rfl rfl rfl hlt w') ?_
    refine dr_val 3 (.int .i64 x) rfl (by decide +kernel) rfl rfl (fun w' hk => val_load1 hT rfl rfl rfl (hca w' hk)) hk0 ?_
    refine tk 4 ?_
    refine tk 5 ?_
    refine dr_any 6 _ rfl (by decide +kernel) rfl rfl (fun w' => val_index j hT rfl rfl rfl rfl rfl hlt w') ?_
    refine dr_val 7 (.int .i64 x) rfl (by decide +kernel) rfl rfl (fun w' hk => val_load1 hT rfl rfl rfl (hcb w' hk)) hk0 ?_
    refine dr_any 8 (.bool false) rfl (by decide +kernel) rfl rfl (fun w' => val_int .i64 _ _ _ rfl rfl rfl (by simp [intOp]) w') ?_
    refine dr_done (by decide +kernel) ?_
    refine au ?_
    refine pl_val (.int .i64 ((j + 1 : Nat) : Int)) rfl rfl (val_int .i64 j 1 _ rfl rfl rfl (by simp only [intOp]; rw [wrap_i64 (by omega) (by omega)]; rfl) _) ?_
    refine au ?_
    refine rn_sub ?_ (ih (112 - (j + 1)) _ _ (by omega) ⟨j + 1, rfl, hlt, rfl, hk0⟩)
    exact ⟨rfl, rfl, rfl, trivial⟩
  · refine pl_val (.bool false) rfl rfl (val_int .i64 _ _ _ rfl rfl rfl (by simp [intOp]; omega) w1) ?_
    refine au ?_
    exact rn_ret Tryz.func15 (.inl ⟨_, rfl, rfl⟩) ⟨rfl, hk1⟩
end
end E
end Go.Proofs.YtmplkogkphmmjagGreat

/- A memory, its store and its disk together; the first look of the laws; the list of steps that they are handed. -/
namespace Go.Proofs.YtmplkogkphmmjagGreat
set_option maxRecDepth 20000
set_option maxHeartbeats 4000000
namespace E
open Go.Proofs

/-- A memory at m on the store at s on the disk at d, where nothing waits; what is not dirty is as the store has it. -/
structure St (B : Nat) (w : World) (d s m : Nat) (S W : List Int) (D : List Bool) (wv : Value) : Prop where
  mem : MemV w m s W D
  sto : StoreV w s d
  dsk : DiskV B w d S [] wv
  good : Good S
  tied : Tied S W D
  hm : B ≤ m

section
variable {B : Nat} {w w' : World} {d s m : Nat} {S W : List Int} {D : List Bool} {wv : Value}

theorem St.fp (h : St B w d s m S W D wv) : ∀ k ∈ m :: fpD d wv, B ≤ k := by
  intro k hk
  rcases List.mem_cons.1 hk with rfl | hk
  · exact h.hm
  · exact (h.dsk.lt k hk).1
theorem St.lt (h : St B w d s m S W D wv) : ∀ k ∈ m :: fpD d wv, k < w.heap.size := by
  intro k hk
  rcases List.mem_cons.1 hk with rfl | hk
  · exact h.mem.blk.lt
  · exact (h.dsk.lt k hk).2
theorem St.keep0 (h : St B w d s m S W D wv) (hk : Keep [] w w') : St B w' d s m S W D wv := ⟨h.mem.keep hk (by simp), hk.blk h.sto (by simp), h.dsk.keep hk (by simp), h.good, h.tied, h.hm⟩
theorem St.nm (h : St B w d s m S W D wv) : m ∉ fpD d wv := not_fp h.dsk h.mem.blk (by decide)

theorem St.wds (h : St B w d s m S W D wv) {v : Value} {A : List Int} (ha : Wds w v A) (hk : Keep (m :: fpD d wv) w w') : Wds w' v A := ha.keep hk fun k L hk hb => by
  rcases List.mem_cons.1 hk with rfl | hk
  · exact Blk.ne hb h.mem.blk (by decide) rfl
  · exact not_fp h.dsk hb (by decide) hk
theorem St.wds1 (h : St B w d s m S W D wv) {v : Value} {A : List Int} (ha : Wds w v A) (hk : Keep [m] w w') : Wds w' v A := ha.keep hk fun k L hk hb => Blk.ne hb h.mem.blk (by decide) (by simpa using hk)

theorem puts_ret (h : St B w d s m S W D wv) (i x : Int) : Ret Tryz.prog 60 [.pointer (some ⟨m, 0, none⟩), .int .i64 i, .int .i64 x] w fun v w' => v = .bool (hasM i) ∧ St B w' d s m S (putW W i x) (putD W D i x) wv ∧ Keep [m] w w' := by
  refine (put_ret h.mem i x).mono ?_
  rintro v w1 ⟨rfl, h1, hk1⟩
  refine ⟨rfl, ⟨h1, hk1.blk h.sto (by simp; exact Blk.ne h.sto h.mem.blk (by decide)), h.dsk.keep hk1 fun k hk hm => h.nm (by simp at hm; rw [← hm]; exact hk), h.good, h.tied.put h.mem.wl h.mem.dl i x, h.hm⟩, hk1⟩

theorem syncs_ret (h : St B w d s m S W D wv) (hg1 : genS S < 1000000) (may : Int) (hmay : doneB (dirtyPs W D) may = true) : Ret Tryz.prog 89 [.pointer (some ⟨m, 0, none⟩), .int .i64 may] w fun v w' => v = .bool true ∧
      ∃ S2 wv2, St B w' d s m S2 W (List.replicate 14 false) wv2 ∧ genS S2 = genS S + 1 ∧ allS S2 = W ∧ Keep (m :: fpD d wv) w w' := by
  refine (sync_ret h.mem h.sto h.dsk hg1 may).mono ?_
  rintro v w1 ⟨rfl, hm1, hs1, hk1, wv1, hd1, hf1⟩
  rw [hmay] at hm1
  obtain ⟨⟨S2, hS2, hN⟩, _⟩ := commit_view h.good (chk_dirty W D) (dirtyTo_wf h.mem.wl D (by decide))
  have hn : deedsN (dirtyPs W D) may = (dirtyPs W D).length + 5 := by
    unfold deedsN
    rw [if_pos (by simpa [doneB] using hmay)]
  rw [hn] at hd1
  rw [hS2] at hd1
  have hall := hN.all h.tied
  exact ⟨by rw [hmay], S2, wv1, ⟨hm1, hs1, hd1, hN.good, tied_all _ hall, h.hm⟩, hN.gen, allS_eq h.mem.wl hall, hk1⟩
end

theorem doneB_neg (ps : List Pg) : doneB ps (-1) = true := by simp [doneB]

theorem allS0 : allS S0 = List.replicate 112 0 := by decide +kernel
def W5 : List Int := putW (List.replicate 112 0) 9 5
def D5 : List Bool := putD (List.replicate 112 0) (List.replicate 14 false) 9 5
theorem len5 : (dirtyPs W5 D5).length = 1 := by decide +kernel
theorem load6 : loadW (putW W5 9 6) 9 = 6 := by decide +kernel
theorem load5 : loadW W5 9 = 5 := by decide +kernel

/-- A memory that is made on a disk where nothing waits. -/
theorem fresh_st {B : Nat} {w w' : World} {d s m : Nat} {S : List Int} {wv : Value} (hm : MemV w' m s (allS S) (List.replicate 14 false)) (hs : StoreV w s d) (hd : DiskV B w d S [] wv) (hG : Good S) (hk : Keep [] w w') (hB : B ≤ m) : St B w' d s m S (allS S) (List.replicate 14 false) wv :=
  ⟨hm, hk.blk hs (by simp), hd.keep hk (by simp), hG, tied_new hG.len, hB⟩

/-! ### The steps -/
/-- What to do, where, by how many deeds, the word, the mask. -/
structure MStep where
  d : Int
  a : Int
  k : Int
  x : Int
  m : Int
def scell (s : MStep) : List Value := [.int .i64 s.d, .int .i64 s.a, .int .i64 s.k, .int .i64 s.x, .int .u64 s.m]
theorem scell_length (s : MStep) : (scell s).length = 5 := rfl
theorem scell_one (s : MStep) : ∀ u ∈ scell s, u.oneCell' = true := by
  intro u hu
  simp [scell] at hu
  rcases hu with rfl | rfl | rfl | rfl | rfl <;> rfl

structure ArgM (B : Nat) (w : World) (lv : Value) (st : List MStep) : Prop where
  ex : ∃ a cap, lv = .slice a st.length cap ∧ (st ≠ [] → ∃ b q, a = some ⟨b, q, none⟩ ∧ b < B ∧ w.rangeAt b q (st.flatMap scell))
  le : B ≤ w.heap.size
theorem ArgM.keep {B : Nat} {w w' : World} {v : Value} {st : List MStep} {fp : List Nat} (h : ArgM B w v st) (hk : Keep fp w w') (hn : ∀ k ∈ fp, B ≤ k) : ArgM B w' v st := by
  obtain ⟨a, cap, hv, hm⟩ := h.ex
  refine ⟨⟨a, cap, hv, fun hne => ?_⟩, Nat.le_trans h.le hk.size⟩
  obtain ⟨b, q, ha, hlt, hr⟩ := hm hne
  exact ⟨b, q, ha, hlt, hk.range hr (Nat.lt_of_lt_of_le hlt h.le) fun hm => by have := hn b hm; omega⟩
theorem ArgM.at {B : Nat} {w : World} {v : Value} {st : List MStep} (h : ArgM B w v st) {j : Nat} {u : MStep} (hu : st[j]? = some u) :
    ∃ b q cap, v = .slice (some ⟨b, q, none⟩) st.length cap ∧ b < B ∧ w.rangeAt b (q + j * 5) (scell u) := by
  obtain ⟨a, cap, hv, hm⟩ := h.ex
  obtain ⟨b, q, ha, hlt, hr⟩ := hm (by intro e; simp [e] at hu)
  refine ⟨b, q, cap, by rw [hv, ha], hlt, range_sub hr (j * 5) ?_⟩
  exact flat_at (k := 5) (f := scell) (fun q _ => rfl) hu
theorem ArgM.form {B : Nat} {w : World} {lv : Value} {st : List MStep} (h : ArgM B w lv st) : ∃ a cap, lv = .slice a st.length cap := by
  obtain ⟨a, cap, hv, _⟩ := h.ex
  exact ⟨a, cap, hv⟩
end E
end Go.Proofs.YtmplkogkphmmjagGreat

/- What the laws of package machine take of it. -/
namespace Go.Proofs.YtmplkogkphmmjagGreat
set_option maxRecDepth 20000
set_option maxHeartbeats 4000000
namespace E
open Go.Proofs

abbrev tPr : Nat := 73

/-- A mind that stands in the words of a memory. -/
structure Enc (W : List Int) (m : Md) : Prop where
  next : W[0]? = some (m.next : Int)
  many : W[1]? = some (m.stack.length : Int)
  read : W[2]? = some (m.read : Int)
  out : W[3]? = some (m.out : Int)
  state : W[4]? = some (m.state : Int)
  cells : ∀ i x, m.cells[i]? = some x → W[5 + i]? = some x
  stack : ∀ i x, m.stack[i]? = some x → W[53 + i]? = some x
theorem enc0 (c : Nat) (hc : c ≤ 48) : Enc (List.replicate 112 0) (mind0 c) where
  next := rfl
  many := rfl
  read := rfl
  out := rfl
  state := rfl
  cells := fun i x h => by
    have hi := (List.getElem?_eq_some_iff.1 h).1
    simp only [mind0, List.length_replicate] at hi
    simp only [mind0, List.getElem?_replicate, hi, if_true, Option.some.injEq] at h
    subst h
    rw [List.getElem?_replicate, if_pos (by omega)]
  stack := fun i x h => by simp [mind0] at h

/-- The blocks of a memory, its store and its disk. -/
def fpM (d s m : Nat) (wv : Value) : List Nat := m :: s :: fpD d wv
/-- What a Printer is told: a number at a place. -/
def putI (p : Pr) (k n : Int) : Pr := if k = (p.1.length : Int) then (p.1 ++ [n], p.2) else if 0 ≤ k ∧ p.1[k.toNat]? = some n then p else (p.1, true)
theorem putI_nat (p : Pr) (k : Nat) (n : Int) : putI p (k : Nat) n = putP p k n := by
  unfold putI putP
  by_cases h : k = p.1.length
  · rw [if_pos (by omega), if_pos h]
  · rw [if_neg (by omega), if_neg h]
    simp

/-- What is to be known of a machine: instructions, input; where its memory and its printer are; its mind; what was printed; how many deeds are left out; was the last commit torn; how many there were. -/
structure Mx where
  L : List Is
  inp : List Int
  m : Nat
  q : Nat
  md : Md
  pr : Pr
  left : Int
  torn : Bool
  gen : Int
/-- Behind one instruction. -/
def Mx.go (M : Mx) (g : Int) : Mx := { M with md := (stB M.L M.inp M.md M.pr).1, pr := (stB M.L M.inp M.md M.pr).2, gen := g }

/-- It is in order, and so many instructions were done at most. -/
structure Wo (c : Nat) (Q : List Is) (M : Mx) (i : Nat) : Prop where
  prg : Prg c Q
  c48 : c ≤ 48
  code : M.L = Q ++ [haltI]
  fit : Fit c Q M.md M.pr
  inp : M.inp.length ≤ 1000
  out : M.pr.1.length ≤ i
  read : M.md.read ≤ i
  gen0 : 0 ≤ M.gen
  gen : M.gen ≤ i
  state : M.md.state ≤ 14
/-- And it alone printed. -/
structure Ord (c : Nat) (Q : List Is) (M : Mx) (i : Nat) : Prop extends Wo c Q M i where
  calm : M.pr.2 = false ∧ M.md.out = M.pr.1.length
def Bnd (m : Md) (p : Pr) (r : Md × Pr) : Prop := r.2.1.length ≤ p.1.length + 1 ∧ r.1.read ≤ m.read + 1 ∧ r.1.state ≤ 14 ∧ r.1.cells.length = m.cells.length
theorem exI_bnd (inp : List Int) (x : Is) (m : Md) (p : Pr) (hs : m.state ≤ 14) : Bnd m p (exI inp x m p) := by
  have hp : (putP p m.out (topS m.stack)).1.length ≤ p.1.length + 1 := by
    unfold putP
    split
    · simp
    · split <;> simp
  unfold exI
  by_cases e1 : x.1 = 1
  · rw [if_pos e1]
    exact ⟨Nat.le_succ _, Nat.le_succ _, hs, rfl⟩
  rw [if_neg e1]
  by_cases e2 : x.1 = 2
  · rw [if_pos e2]
    exact ⟨Nat.le_succ _, Nat.le_succ _, hs, rfl⟩
  rw [if_neg e2]
  by_cases e3 : x.1 = 3
  · rw [if_pos e3]
    split
    · exact ⟨Nat.le_succ _, Nat.le_succ _, hs, rfl⟩
    · exact ⟨Nat.le_succ _, Nat.le_succ _, (by decide : (13 : Nat) ≤ 14), rfl⟩
  rw [if_neg e3]
  by_cases e4 : 4 ≤ x.1 ∧ x.1 ≤ 8
  · rw [if_pos e4]
    exact ⟨Nat.le_succ _, Nat.le_succ _, hs, rfl⟩
  rw [if_neg e4]
  by_cases e9 : x.1 = 9
  · rw [if_pos e9]
    exact ⟨Nat.le_succ _, Nat.le_succ _, hs, List.length_set⟩
  rw [if_neg e9]
  by_cases e10 : x.1 = 10
  · rw [if_pos e10]
    split
    · exact ⟨Nat.le_succ _, Nat.le_succ _, hs, List.length_set⟩
    · exact ⟨Nat.le_succ _, Nat.le_succ _, (by decide : (13 : Nat) ≤ 14), rfl⟩
  rw [if_neg e10]
  by_cases e11 : x.1 = 11
  · rw [if_pos e11]
    exact ⟨hp, Nat.le_succ _, hs, rfl⟩
  rw [if_neg e11]
  by_cases e12 : x.1 = 12
  · rw [if_pos e12]
    split
    · exact ⟨Nat.le_succ _, Nat.le_refl _, hs, List.length_set⟩
    · exact ⟨Nat.le_succ _, Nat.le_succ _, (by decide : (14 : Nat) ≤ 14), rfl⟩
  rw [if_neg e12]
  by_cases e13 : x.1 = 13
  · rw [if_pos e13]
    exact ⟨Nat.le_succ _, Nat.le_succ _, hs, rfl⟩
  rw [if_neg e13]
  by_cases e14 : x.1 = 14
  · rw [if_pos e14]
    exact ⟨Nat.le_succ _, Nat.le_succ _, hs, rfl⟩
  rw [if_neg e14]
  by_cases e16 : x.1 = 16
  · rw [if_pos e16]
    exact ⟨Nat.le_succ _, Nat.le_succ _, (by decide : (1 : Nat) ≤ 14), rfl⟩
  rw [if_neg e16]
  exact ⟨Nat.le_succ _, Nat.le_succ _, hs, rfl⟩
theorem stB_bnd (W : List Is) (inp : List Int) (m : Md) (p : Pr) (hs : m.state ≤ 14) : (stB W inp m p).2.1.length ≤ p.1.length + 1 ∧ (stB W inp m p).1.read ≤ m.read + 1 ∧ (stB W inp m p).1.state ≤ 14 ∧ (stB W inp m p).1.cells.length = m.cells.length := by
  unfold stB
  split
  · exact exI_bnd inp _ m p hs
  · exact ⟨Nat.le_succ _, Nat.le_succ _, hs, rfl⟩
def Clm (r : Md × Pr) : Prop := r.2.2 = false ∧ r.1.out = r.2.1.length
theorem exI_calm (inp : List Int) (x : Is) (m : Md) (p : Pr) (h : p.2 = false ∧ m.out = p.1.length) : Clm (exI inp x m p) := by
  unfold exI
  by_cases e1 : x.1 = 1
  · rw [if_pos e1]
    exact h
  rw [if_neg e1]
  by_cases e2 : x.1 = 2
  · rw [if_pos e2]
    exact h
  rw [if_neg e2]
  by_cases e3 : x.1 = 3
  · rw [if_pos e3]
    split <;> exact h
  rw [if_neg e3]
  by_cases e4 : 4 ≤ x.1 ∧ x.1 ≤ 8
  · rw [if_pos e4]
    exact h
  rw [if_neg e4]
  by_cases e9 : x.1 = 9
  · rw [if_pos e9]
    exact h
  rw [if_neg e9]
  by_cases e10 : x.1 = 10
  · rw [if_pos e10]
    split <;> exact h
  rw [if_neg e10]
  by_cases e11 : x.1 = 11
  · rw [if_pos e11]
    have hp : putP p m.out (topS m.stack) = (p.1 ++ [topS m.stack], p.2) := by
      unfold putP
      rw [if_pos h.2]
    rw [hp]
    exact ⟨h.1, by show m.out + 1 = (p.1 ++ [topS m.stack]).length; rw [h.2]; simp⟩
  rw [if_neg e11]
  by_cases e12 : x.1 = 12
  · rw [if_pos e12]
    split <;> exact h
  rw [if_neg e12]
  by_cases e13 : x.1 = 13
  · rw [if_pos e13]
    exact h
  rw [if_neg e13]
  by_cases e14 : x.1 = 14
  · rw [if_pos e14]
    exact h
  rw [if_neg e14]
  by_cases e16 : x.1 = 16
  · rw [if_pos e16]
    exact h
  rw [if_neg e16]
  exact h
section
variable {c i : Nat} {Q : List Is} {M : Mx}
theorem Wo.go (h : Wo c Q M i) {g : Int} (h0 : 0 ≤ g) (hg : g ≤ M.gen + 1) : Wo c Q (M.go g) (i + 1) := by
  obtain ⟨b1, b2, b3, _⟩ := stB_bnd M.L M.inp M.md M.pr h.state
  have := h.out
  have := h.read
  have := h.gen
  refine ⟨h.prg, h.c48, h.code, ?_, h.inp, ?_, ?_, h0, ?_, b3⟩
  · show Fit c Q (stB M.L M.inp M.md M.pr).1 (stB M.L M.inp M.md M.pr).2
    rw [h.code]
    exact h.fit.step h.prg.sim h.prg.jmp
  · show (stB M.L M.inp M.md M.pr).2.1.length ≤ i + 1
    omega
  · show (stB M.L M.inp M.md M.pr).1.read ≤ i + 1
    omega
  · show g ≤ ((i + 1 : Nat) : Int)
    omega
theorem Wo.stay (h : Wo c Q M i) : Wo c Q M (i + 1) := ⟨h.prg, h.c48, h.code, h.fit, h.inp, Nat.le_succ_of_le h.out, Nat.le_succ_of_le h.read, h.gen0, by have := h.gen; omega, h.state⟩
theorem Ord.go (h : Ord c Q M i) {g : Int} (h0 : 0 ≤ g) (hg : g ≤ M.gen + 1) : Ord c Q (M.go g) (i + 1) := by
  refine ⟨h.toWo.go h0 hg, ?_⟩
  show (stB M.L M.inp M.md M.pr).2.2 = false ∧ (stB M.L M.inp M.md M.pr).1.out = (stB M.L M.inp M.md M.pr).2.1.length
  unfold stB
  split
  · exact exI_calm _ _ _ _ h.calm
  · exact h.calm
theorem Ord.stay (h : Ord c Q M i) : Ord c Q M (i + 1) := ⟨h.toWo.stay, h.calm⟩
end
theorem go_off {M : Mx} (h : M.md.state ≠ 0) : M.go M.gen = M := by
  unfold Mx.go stB
  rw [if_neg h]

/-- A list of numbers that lies there, in a block that is only read. -/
def LsR (R : Nat → Prop) (w : World) (v : Value) (l : List Int) : Prop := ∃ a cap, v = .slice a l.length cap ∧ (0 < l.length → ∃ b q, a = some ⟨b, q, none⟩ ∧ R b ∧ w.rangeAt b q (lgs l))

/-- What is to be shown of package machine. V: a machine that lies there, with the blocks that are its own (from B on); R: those that are only read; PV: a printer; TV: what is left to know of a machine behind a commit that was left off. -/
structure MaI (V : (Nat → Prop) → Nat → World → Nat → List Nat → Mx → Prop) (PV : (Nat → Prop) → Nat → World → Nat → List Nat → Pr → Prop) (TV : World → Nat → Bool → Prop) (pz : List Value) (off : Nat) : Prop where
  vlt : ∀ {R : Nat → Prop} {B : Nat} {w : World} {x : Nat} {fp : List Nat} {M : Mx}, V R B w x fp M → ∀ k ∈ fp, B ≤ k ∧ k < w.heap.size ∧ ¬ R k
  vin : ∀ {R : Nat → Prop} {B : Nat} {w : World} {x : Nat} {fp : List Nat} {M : Mx}, V R B w x fp M → x ∈ fp
  vkeep : ∀ {R : Nat → Prop} {B : Nat} {w w' : World} {x : Nat} {fp fp2 : List Nat} {M : Mx}, V R B w x fp M → Keep fp2 w w' → (∀ k ∈ fp2, ¬ R k ∧ k ∉ fp) → V R B w' x fp M
  vmem : ∀ {R : Nat → Prop} {B : Nat} {w : World} {x : Nat} {fp : List Nat} {M : Mx}, V R B w x fp M → w.cell? ⟨x, off, none⟩ = some (.pointer (some ⟨M.m, 0, none⟩))
  vopen : ∀ {R : Nat → Prop} {B : Nat} {w : World} {x : Nat} {fp : List Nat} {M : Mx}, V R B w x fp M → ∃ d s S W D wv fq, St B w d s M.m S W D wv ∧ B ≤ s ∧ Enc W M.md ∧ genS S = M.gen ∧ PV R B w M.q fq M.pr ∧ ∀ k, k ∈ fpM d s M.m wv ∨ k ∈ fq → k ∈ fp
  plt : ∀ {R : Nat → Prop} {B : Nat} {w : World} {q : Nat} {fq : List Nat} {p : Pr}, PV R B w q fq p → ∀ k ∈ fq, B ≤ k ∧ k < w.heap.size ∧ ¬ R k
  pkeep : ∀ {R : Nat → Prop} {B : Nat} {w w' : World} {q : Nat} {fq fp2 : List Nat} {p : Pr}, PV R B w q fq p → Keep fp2 w w' → (∀ k ∈ fp2, ¬ R k ∧ k ∉ fq) → PV R B w' q fq p
  pbuilt : Tryz.prog.built tPr [] = some pz.toArray
  pnew : ∀ {R : Nat → Prop} {B : Nat} {w : World} {q : Nat}, Blk w q pz tPr → B ≤ q → ¬ R q → (∀ k, R k → k < w.heap.size) → PV R B w q [q] ([], false)
  new : ∀ {R : Nat → Prop} {B : Nat} {w : World} {d s m q : Nat} {S W : List Int} {D : List Bool} {wv cv iv : Value} {fq : List Nat} {p : Pr} {md : Md} {L : List Is} {inp : List Int}, St B w d s m S W D wv → B ≤ s → (∀ k ∈ fpM d s m wv, ¬ R k) → Enc W md → PV R B w q fq p → InsV R w cv L → LsR R w iv inp → (∀ k, R k → k < w.heap.size) → inp.length ≤ 1000 →
    Ret Tryz.prog 40 [.pointer (some ⟨m, 0, none⟩), cv, iv, .pointer (some ⟨q, 0, none⟩)] w fun r w' => ∃ x fp, r = .pointer (some ⟨x, 0, none⟩) ∧ V R B w' x fp ⟨L, inp, m, q, md, p, 0, false, genS S⟩ ∧ Keep [] w w' ∧ ∀ k ∈ fp, k ∈ fpM d s m wv ∨ k ∈ fq ∨ w.heap.size ≤ k
  step : ∀ {R : Nat → Prop} {B : Nat} {w : World} {x : Nat} {fp : List Nat} {M : Mx} {c i : Nat} {Q : List Is}, V R B w x fp M → Ord c Q M i → i ≤ 100000 → M.md.state = 0 → (comB M.L M.md = true → M.left = 0 ∧ M.torn = false) →
    Ret Tryz.prog 43 [.pointer (some ⟨x, 0, none⟩)] w fun r w' => r = .bool true ∧ ∃ fp' g, V R B w' x fp' (M.go g) ∧ 0 ≤ g ∧ g ≤ M.gen + 1 ∧ Keep fp w w' ∧ ∀ k ∈ fp', k ∈ fp ∨ w.heap.size ≤ k
  offs : ∀ {R : Nat → Prop} {B : Nat} {w : World} {x : Nat} {fp : List Nat} {M : Mx}, V R B w x fp M → M.md.state ≠ 0 → Ret Tryz.prog 43 [.pointer (some ⟨x, 0, none⟩)] w fun r w' => r = .bool false ∧ Keep [] w w'
  result : ∀ {R : Nat → Prop} {B : Nat} {w : World} {x n : Nat} {fp : List Nat} {M : Mx} {c i : Nat} {Q : List Is}, V R B w x fp M → Ord c Q M i → i ≤ 100000 → n ≤ c → Ret Tryz.prog 30 [.pointer (some ⟨x, 0, none⟩), .int .i64 (n : Nat)] w fun r w' => (∃ ov cv, r = .agg (resC (codeB M.md M.pr) ov cv).toArray ∧ LsV w' ov M.pr.1 ∧ LsV w' cv (M.md.cells.take n)) ∧ Keep [] w w'
  commits : ∀ {R : Nat → Prop} {B : Nat} {w : World} {x : Nat} {fp : List Nat} {M : Mx} {c i : Nat} {Q : List Is}, V R B w x fp M → Ord c Q M i → i ≤ 100000 → Ret Tryz.prog 10 [.pointer (some ⟨x, 0, none⟩)] w fun r w' => r = .bool (comB M.L M.md) ∧ Keep [] w w'
  tear : ∀ {R : Nat → Prop} {B : Nat} {w : World} {x : Nat} {fp : List Nat} {M : Mx}, V R B w x fp M → ∀ (n : Int), Ret Tryz.prog 44 [.pointer (some ⟨x, 0, none⟩), .int .i64 n] w fun r w' => r = .tuple #[] ∧ V R B w' x fp { M with left := n } ∧ Keep fp w w'
  tears : ∀ {R : Nat → Prop} {B : Nat} {w : World} {x : Nat} {fp : List Nat} {M : Mx} {c i : Nat} {Q : List Is}, V R B w x fp M → Ord c Q M i → i ≤ 100000 → comB M.L M.md = true → 0 < M.left → M.left < 9223372036854775808 →
    Ret Tryz.prog 43 [.pointer (some ⟨x, 0, none⟩)] w fun r w' => r = .bool true ∧ TV w' x true ∧ Keep fp w w'
  tkeep : ∀ {w w' : World} {x : Nat} {fp : List Nat} {b : Bool}, TV w x b → Keep fp w w' → x ∉ fp → TV w' x b
  put : ∀ {R : Nat → Prop} {B : Nat} {w : World} {q : Nat} {fq : List Nat} {p : Pr}, PV R B w q fq p → p.1.length ≤ 100000 → ∀ (k n : Int), Ret Tryz.prog 98 [.pointer (some ⟨q, 0, none⟩), .int .i64 k, .int .i64 n] w fun r w' => r = .tuple #[] ∧ ∃ fq', PV R B w' q fq' (putI p k n) ∧ Keep fq w w' ∧ ∀ k ∈ fq', k ∈ fq ∨ w.heap.size ≤ k
  list : ∀ {R : Nat → Prop} {B : Nat} {w : World} {q : Nat} {fq : List Nat} {p : Pr}, PV R B w q fq p → p.1.length ≤ 100000 → Ret Tryz.prog 48 [.pointer (some ⟨q, 0, none⟩)] w fun r w' => LsV w' r p.1 ∧ Keep [] w w'
  code : ∀ {R : Nat → Prop} {B : Nat} {w : World} {q : Nat} {fq : List Nat} {p : Pr}, PV R B w q fq p → Ret Tryz.prog 65 [.pointer (some ⟨q, 0, none⟩)] w fun r w' => r = .int .i64 (if p.2 then 15 else 0) ∧ Keep [] w w'

section
variable {V : (Nat → Prop) → Nat → World → Nat → List Nat → Mx → Prop} {PV : (Nat → Prop) → Nat → World → Nat → List Nat → Pr → Prop} {TV : World → Nat → Bool → Prop} {pz : List Value} {off : Nat}
variable {R : Nat → Prop} {B : Nat}
theorem MaI.vkeep0 (I : MaI V PV TV pz off) {w w' : World} {x : Nat} {fp : List Nat} {M : Mx} (h : V R B w x fp M) (hk : Keep [] w w') : V R B w' x fp M := I.vkeep h hk fun k hk => by cases hk
theorem MaI.pkeep0 (I : MaI V PV TV pz off) {w w' : World} {q : Nat} {fq : List Nat} {p : Pr} (h : PV R B w q fq p) (hk : Keep [] w w') : PV R B w' q fq p := I.pkeep h hk fun k hk => by cases hk
/-- One instruction, or none, if it goes on no longer. -/
theorem MaI.any (I : MaI V PV TV pz off) {w : World} {x : Nat} {fp : List Nat} {M : Mx} {c i : Nat} {Q : List Is} (h : V R B w x fp M) (ho : Ord c Q M i) (hi : i ≤ 100000) (hl : comB M.L M.md = true → M.left = 0 ∧ M.torn = false) :
    Ret Tryz.prog 43 [.pointer (some ⟨x, 0, none⟩)] w fun r w' => r = .bool (decide (M.md.state = 0)) ∧ ∃ fp' g, V R B w' x fp' (M.go g) ∧ Ord c Q (M.go g) (i + 1) ∧ Keep fp w w' ∧ ∀ k ∈ fp', k ∈ fp ∨ w.heap.size ≤ k := by
  by_cases hs : M.md.state = 0
  · refine (I.step h ho hi hs hl).mono ?_
    rintro r w' ⟨rfl, fp', g, h', h0, hg, hk, hf⟩
    exact ⟨by simp [hs], fp', g, h', ho.go h0 hg, hk, hf⟩
  · refine (I.offs h hs).mono ?_
    rintro r w' ⟨rfl, hk⟩
    refine ⟨by simp [hs], fp, M.gen, ?_, ?_, hk.of0, fun k hk => .inl hk⟩
    · rw [go_off hs]; exact I.vkeep0 h hk
    · rw [go_off hs]; exact ho.stay
/-- What is not its own stays. -/
theorem MaI.apart (I : MaI V PV TV pz off) {w w' : World} {x y : Nat} {fp fp' fy : List Nat} {M N : Mx} (hx : V R B w x fp M) (hy : V R B w y fy N) (hd : ∀ k ∈ fy, k ∉ fp) (hk : Keep fp w w') (hf : ∀ k ∈ fp', k ∈ fp ∨ w.heap.size ≤ k) : V R B w' y fy N ∧ ∀ k ∈ fy, k ∉ fp' := by
  refine ⟨I.vkeep hy hk fun k hk => ⟨(I.vlt hx k hk).2.2, fun hm => hd k hm hk⟩, fun k hm hm' => ?_⟩
  rcases hf k hm' with h1 | h1
  · exact hd k hm h1
  · have := (I.vlt hy k hm).2.1; omega
/-- What it does leaves all below B alone. -/
theorem MaI.low (I : MaI V PV TV pz off) {w0 w w' : World} {x : Nat} {fp : List Nat} {M : Mx} (h : V R B w x fp M) (hk : Keep [] w0 w) (hB : w0.heap.size ≤ B) (hk' : Keep fp w w') : Keep [] w0 w' := hk.trans hk' fun k hm => .inr (Nat.le_trans hB (I.vlt h k hm).1)
end
end E
end Go.Proofs.YtmplkogkphmmjagGreat
