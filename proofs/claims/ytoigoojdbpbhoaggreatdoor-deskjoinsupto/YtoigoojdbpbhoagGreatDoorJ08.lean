/- Texts StoO StoP MoA MoB MoM MoC MoD MaK MaH MnA MwB MwC MwD MwE MwF. -/
import Derived.Test.YtoigoojdbpbhoagGreatDoorSStoN
import Derived.Test.YtoigoojdbpbhoagGreatDoorJ00
import Derived.Test.YtoigoojdbpbhoagGreatDoorJ03
namespace Go.Proofs.YtoigoojdbpbhoagGreatDoor
set_option maxRecDepth 20000
set_option maxHeartbeats 4000000
namespace E
section
open Go.Proofs
theorem commit_view {S : List Int} (hG : Good S) {ps : List Pg} (hc : chk ps = 0) (hwf : ∀ p ∈ ps, p.2.length = 8) :
  (∃ S2, doDeeds ((deedsOf S ps).take (ps.length + 5)) (S, []) = (S2, []) ∧ New S ps S2) ∧
  ∀ m, m < ps.length + 5 → ∀ stays : Nat → Bool,
   (m = ps.length + 4 ∧ stays 0 = true → New S ps (settled stays (doDeeds ((deedsOf S ps).take m) (S, [])).2 (doDeeds ((deedsOf S ps).take m) (S, [])).1)) ∧
   (¬ (m = ps.length + 4 ∧ stays 0 = true) → Same S (settled stays (doDeeds ((deedsOf S ps).take m) (S, [])).2 (doDeeds ((deedsOf S ps).take m) (S, [])).1)) := by
 obtain ⟨W, r, hWl, hW, hr, hD, hsame, hnew⟩ := commit_math hG hc hwf
 have hlen : (W.map fun p => (some ((p.1 : Int), p.2) : Deed)).length = ps.length + 2 := by simp [hWl]
 have hwr := doDeeds_writes W (fun p hp => (hW p hp).1) S []
 rw [List.nil_append] at hwr
 have hb : hasB ((r.1 : Nat) : Int) = true := by have := hr.1; simp [hasB]; omega
 have h3 : doDeeds ((deedsOf S ps).take (ps.length + 3)) (S, []) = (settled (fun _ => true) W S, []) := by
  rw [hD, List.append_assoc, List.append_assoc, List.take_append, hlen, List.take_of_length_le (by omega), show ps.length + 3 - (ps.length + 2) = 1 by omega, doDeeds, List.foldl_append]
  rw [doDeeds] at hwr
  rw [hwr]
  rfl
 have h4 : doDeeds ((deedsOf S ps).take (ps.length + 4)) (S, []) = (settled (fun _ => true) W S, [r]) := by
  rw [hD, List.append_assoc, List.append_assoc, List.take_append, hlen, List.take_of_length_le (by omega), show ps.length + 4 - (ps.length + 2) = 2 by omega, doDeeds, List.foldl_append]
  rw [doDeeds] at hwr
  rw [hwr]
  show doDeed (doDeed (S, W) none) (some ((r.1 : Int), r.2)) = _
  simp [doDeed, hb]
 have h5 : doDeeds ((deedsOf S ps).take (ps.length + 5)) (S, []) = (upd (settled (fun _ => true) W S) r, []) := by
  rw [List.take_of_length_le (by rw [deedsOf_len]; omega)]
  rw [hD, List.append_assoc, List.append_assoc, doDeeds, List.foldl_append]
  rw [doDeeds] at hwr
  rw [hwr]
  show doDeed (doDeed (doDeed (S, W) none) (some ((r.1 : Int), r.2))) none = _
  simp only [doDeed, hb, if_true, List.nil_append, Int.toNat_natCast]
  rw [settled_all [_]]
  rfl
 refine ⟨⟨_, h5, hnew⟩, fun m hm stays => ?_⟩
 have hsW : Same S (settled (fun _ => true) W S) := hsame W _ fun p hp => hp
 rcases Nat.lt_or_ge m (ps.length + 3) with h | h
 ·refine ⟨fun he => by omega, fun _ => ?_⟩
  have : doDeeds ((deedsOf S ps).take m) (S, []) = (S, W.take m) := by
   rw [hD, List.append_assoc, List.append_assoc, List.take_append_of_le_length (by rw [hlen]; omega), ← List.map_take]
   have := doDeeds_writes (W.take m) (fun p hp => (hW p (List.mem_of_mem_take hp)).1) S []
   rwa [List.nil_append] at this
  rw [this]
  exact hsame _ _ fun p hp => List.mem_of_mem_take hp
 ·have : m = ps.length + 3 ∨ m = ps.length + 4 := by omega
  rcases this with rfl | rfl
  ·rw [h3]
   exact ⟨fun he => by omega, fun _ => hsW⟩
  ·rw [h4]
   have es : settled stays [r] (settled (fun _ => true) W S) = if stays 0 then upd (settled (fun _ => true) W S) r else settled (fun _ => true) W S := by
    simp [settled, stl]
   rw [es]
   refine ⟨fun he => by rw [if_pos he.2]; exact hnew, fun hn => ?_⟩
   rw [if_neg fun h0 => hn ⟨rfl, h0⟩]
   exact hsW
def S0 : List Int := List.replicate 272 0
theorem genS0 : genS S0 = 0 := by decide +kernel
theorem good0 : Good S0 := by
 refine ⟨List.length_replicate, ?_, ?_⟩
 ·decide +kernel
 ·decide +kernel
def lookI (ps : List Pg) (i : Int) : Option (List Int) := ((ps.filter fun p => p.1 == i).getLast?).map (·.2)
theorem lookI_snoc (ps : List Pg) (p : Pg) (i : Int) : lookI (ps ++ [p]) i = if p.1 = i then some p.2 else lookI ps i := by
 unfold lookI
 rw [List.filter_append]
 by_cases h : p.1 = i
 ·simp [h]
 ·simp [h]
theorem New.look {S S' : List Int} {ps : List Pg} (h : New S ps S') (hc : chk ps = 0) (i : Int) : readS S' i = (lookI ps i).getD (readS S i) := by
 cases hi : hasP i with
 | true =>
  have hi' : 0 ≤ i ∧ i < 14 := by simpa [hasP] using hi
  rw [h.read i hi, newRead]
  have : lookP ps i.toNat = lookI ps i := by
   unfold lookP lookI
   rw [show ((i.toNat : Nat) : Int) = i by omega]
  rw [this]
  cases lookI ps i <;> rfl
 | false =>
  have hn : lookI ps i = none := by
   unfold lookI
   rw [List.filter_eq_nil_iff.2 fun p hp => ?_]
   ·rfl
   ·have := chkFrom_ok hc p hp
    simp only [beq_iff_eq]
    intro e
    rw [e, hi] at this
    cases this
  rw [hn]
  simp [readS, hi]
theorem slice_pg (i : Int) {ws : List Int} (h : ws.length = 8) : sliceCells Tryz.prog 329 1 [(0, Value.agg (pcell (i, ws)).toArray)] = some (337, (pcell (i, ws)).toArray) := by
 obtain ⟨a, b, c, d, e, f, g, j, rfl⟩ := list8 h
 kernel_rfl
end
section
open Go.Proofs
theorem Pgs.form {B : Nat} {w : World} {v : Value} {ps : List Pg} (h : Pgs B w v ps) : ∃ a cap, v = .slice a ps.length cap := by
 obtain ⟨a, cap, hv, _⟩ := h.ex
 exact ⟨a, cap, hv⟩
theorem not_fp {B : Nat} {w : World} {d : Nat} {S : List Int} {L : List Wr} {wv : Value} (h : DiskV B w d S L wv) {b : Nat} {M : List Value} {e : TypeId} (hb : Blk w b M e) (he : (e == 258 || e == 320) = false) : b ∉ fpD d wv := fun hm => by
 rcases fpD_typ h b hm _ _ hb with h1 | h1 <;> simp [h1] at he
end
section
open Go.Proofs
def mcells (s : Nat) (W : List Int) (D : List Bool) : List Value := Value.pointer (some ⟨s, 0, none⟩) :: (ints W ++ bools D)
structure MemV (w : World) (m s : Nat) (W : List Int) (D : List Bool) : Prop where
 blk : Blk w m (mcells s W D) 283
 wl : W.length = 112
 dl : D.length = 14
theorem MemV.keep {w w' : World} {m s : Nat} {W : List Int} {D : List Bool} {fp : List Nat} (h : MemV w m s W D) (hk : Keep fp w w') (hn : m ∉ fp) : MemV w' m s W D := ⟨hk.blk h.blk hn, h.wl, h.dl⟩
def page (W : List Int) (n : Nat) : List Int := (W.drop (n * 8)).take 8
theorem page_length {W : List Int} (h : W.length = 112) {n : Nat} (hn : n < 14) : (page W n).length = 8 := by simp [page, h]; omega
section
variable {s : Nat} {W : List Int} {D : List Bool}
theorem mcells_length (h : W.length = 112) (h' : D.length = 14) : (mcells s W D).length = 127 := by simp [mcells, ints_length, bools_length, h, h']
theorem m_at (h : W.length = 112) {i : Nat} (hi : i < 112) : (mcells s W D)[0 + 1 + i * 1]? = some (.int .i64 (W.getD i 0)) := by
 have e : 0 + 1 + i * 1 = i + 1 := by omega
 rw [e, mcells, List.getElem?_cons_succ, List.getElem?_append_left (by rw [ints_length]; omega)]
 simp [ints, List.getD_eq_getElem?_getD, h, hi]
theorem m_setW (h : W.length = 112) {i : Nat} (hi : i < 112) (x : Int) : splice (mcells s W D) (0 + 1 + i * 1) [.int .i64 x] = mcells s (W.set i x) D := by
 have := splice_mid [Value.pointer (some ⟨s, 0, none⟩)] (ints W) (bools D) [.int .i64 x] i (by rw [ints_length]; simp; omega)
 rw [splice_ints W i x (by omega)] at this
 rw [show 0 + 1 + i * 1 = [Value.pointer (some ⟨s, 0, none⟩)].length + i by simp]
 simpa [mcells] using this
theorem m_setWs {i : Nat} {ws : List Int} (hi : i + ws.length ≤ W.length) : splice (mcells s W D) (1 + i) (ints ws) = mcells s (W.take i ++ ws ++ W.drop (i + ws.length)) D := by
 have := splice_mid [Value.pointer (some ⟨s, 0, none⟩)] (ints W) (bools D) (ints ws) i (by rw [ints_length, ints_length]; omega)
 rw [show splice (ints W) i (ints ws) = ints (W.take i ++ ws ++ W.drop (i + ws.length)) by simp [splice, ints, List.map_take, List.map_drop]] at this
 rw [show 1 + i = [Value.pointer (some ⟨s, 0, none⟩)].length + i by simp]
 simpa [mcells] using this
theorem m_setD (h : W.length = 112) (h' : D.length = 14) {i : Nat} (hi : i < 14) (x : Bool) : splice (mcells s W D) (0 + 113 + i * 1) [.bool x] = mcells s W (D.set i x) := by
 have := splice_mid (Value.pointer (some ⟨s, 0, none⟩) :: ints W) (bools D) [] [.bool x] i (by rw [bools_length]; simp; omega)
 rw [splice_bools D i x (by omega)] at this
 rw [show 0 + 113 + i * 1 = (Value.pointer (some ⟨s, 0, none⟩) :: ints W).length + i by simp [ints_length, h]]
 simpa [mcells] using this
theorem m_setDs (h : W.length = 112) {D' : List Bool} (h' : D'.length = D.length) : splice (mcells s W D) 113 (bools D') = mcells s W D' := by
 have := splice_mid (Value.pointer (some ⟨s, 0, none⟩) :: ints W) (bools D) [] (bools D') 0 (by rw [bools_length, bools_length]; omega)
 rw [splice_all (by rw [bools_length, bools_length, h'])] at this
 rw [show 113 = (Value.pointer (some ⟨s, 0, none⟩) :: ints W).length + 0 by simp [ints_length, h]]
 simpa [mcells] using this
theorem m_page (h : W.length = 112) {n : Nat} (hn : n < 14) : ((mcells s W D).drop (1 + n * 8)).take 8 = ints (page W n) := by
 rw [Nat.add_comm, mcells, List.drop_succ_cons, List.drop_append_of_le_length (by rw [ints_length]; omega), List.take_append_of_le_length (by rw [List.length_drop, ints_length]; omega)]
 simp [page, ints, List.map_take, List.map_drop]
theorem m_D (h : W.length = 112) (h' : D.length = 14) : ((mcells s W D).drop 113).take 14 = bools D := by
 rw [mcells, List.drop_succ_cons, List.drop_append, List.drop_eq_nil_of_le (by rw [ints_length]; omega), ints_length, h, List.nil_append, List.drop_zero, List.take_of_length_le (by rw [bools_length]; omega)]
end
def hasM (i : Int) : Bool := decide (0 ≤ i) && decide (i < 112)
theorem hasM_ret (i : Int) (w : World) : Ret Tryz.prog 214 [.int .i64 i] w fun v w' => v = .bool (hasM i) ∧ w' = w := by
 refine ret_of 9 Tryz.func214 rfl rfl (by simp) ?_
 refine au ?_
 by_cases h0 : 0 ≤ i
 ·refine pl_val (.bool true) rfl rfl (val_int .i64 i 0 _ rfl rfl rfl (by simp [intOp, h0]) w) ?_
  refine au ?_
  refine pl_val (.bool (decide (i < 112))) rfl rfl (val_int .i64 i 112 _ rfl rfl rfl (by simp [intOp]) w) ?_
  refine au ?_
  refine rn_ret Tryz.func214 (.inl ⟨_, rfl, rfl⟩) ⟨?_, rfl⟩
  simp [hasM, h0]
 ·refine pl_val (.bool false) rfl rfl (val_int .i64 i 0 _ rfl rfl rfl (by simp [intOp, h0]) w) ?_
  refine au ?_
  refine rn_ret Tryz.func214 (.inl ⟨_, rfl, rfl⟩) ⟨?_, rfl⟩
  simp [hasM, h0]
def loadW (W : List Int) (i : Int) : Int := if hasM i then W.getD i.toNat 0 else 0
def putW (W : List Int) (i x : Int) : List Int := if hasM i then W.set i.toNat x else W
def putD (W : List Int) (D : List Bool) (i x : Int) : List Bool := if hasM i then (if W.getD i.toNat 0 = x then D else D.set (i.toNat / 8) true) else D
section
variable {w : World} {m s : Nat} {W : List Int} {D : List Bool}
theorem load_ret (h : MemV w m s W D) (i : Int) : Ret Tryz.prog 183 [.pointer (some ⟨m, 0, none⟩), .int .i64 i] w fun v w' => v = .int .i64 (loadW W i) ∧ w' = w := by
 refine ret_of 14 Tryz.func183 rfl rfl (by simp) ?_
 refine au ?_
 refine pl_op rfl rfl (opTo_call rfl rfl rfl rfl (by decide +kernel) ((hasM_ret i w).mono ?_))
 rintro v w1 ⟨rfl, rfl⟩
 cases hb : hasM i with
 | false =>
  refine au ?_
  exact rn_ret Tryz.func183 (.inl ⟨_, rfl, rfl⟩) ⟨by simp [loadW, hb], rfl⟩
 | true =>
  have hi : 0 ≤ i ∧ i < 112 := by simpa [hasM] using hb
  refine au ?_
  refine pl_val _ rfl rfl (val_indexArr i.toNat hT rfl rfl rfl rfl (by omega) (by omega) w1) ?_
  refine pl_val (.int .i64 (W.getD i.toNat 0)) rfl rfl (val_load1 hT rfl rfl rfl (h.blk.cell (m_at h.wl (by omega)))) ?_
  refine au ?_
  exact rn_ret Tryz.func183 (.inl ⟨_, rfl, rfl⟩) ⟨by simp [loadW, hb], rfl⟩
theorem put_ret (h : MemV w m s W D) (i x : Int) : Ret Tryz.prog 210 [.pointer (some ⟨m, 0, none⟩), .int .i64 i, .int .i64 x] w fun v w' => v = .bool (hasM i) ∧ MemV w' m s (putW W i x) (putD W D i x) ∧ Keep [m] w w' := by
 refine ret_of 30 Tryz.func210 rfl rfl (by simp) ?_
 refine au ?_
 refine pl_op rfl rfl (opTo_call rfl rfl rfl rfl (by decide +kernel) ((hasM_ret i w).mono ?_))
 rintro v w1 ⟨rfl, rfl⟩
 cases hb : hasM i with
 | false =>
  refine au ?_
  refine rn_ret Tryz.func210 (.inl ⟨_, rfl, rfl⟩) ⟨rfl, ?_, Keep.refl _ _⟩
  simpa [putW, putD, hb] using h
 | true =>
  have hi : 0 ≤ i ∧ i < 112 := by simpa [hasM] using hb
  have hI : i = ((i.toNat : Nat) : Int) := by omega
  have hlt : i.toNat < 112 := by omega
  refine au ?_
  refine pl_val _ rfl rfl (val_indexArr i.toNat hT rfl rfl rfl rfl hI (by omega) w1) ?_
  refine pl_val (.int .i64 (W.getD i.toNat 0)) rfl rfl (val_load1 hT rfl rfl rfl (h.blk.cell (m_at h.wl (by omega)))) ?_
  refine au ?_
  by_cases hx : W.getD i.toNat 0 = x
  ·refine pl_val (.bool false) rfl rfl (val_int .i64 _ x _ rfl rfl rfl (by simp only [intOp, hx, bne_self_eq_false]) w1) ?_
   refine au ?_
   refine rn_ret Tryz.func210 (.inl ⟨_, rfl, rfl⟩) ⟨rfl, ?_, Keep.refl _ _⟩
   have e : W.set i.toNat x = W := by
    apply List.ext_getElem?
    intro j
    rw [List.getElem?_set]
    split
    ·rename_i e
     subst e
     rw [if_pos (by rw [h.wl]; omega), ← hx, List.getD_eq_getElem?_getD, List.getElem?_eq_getElem (by rw [h.wl]; omega)]
     rfl
    ·rfl
   simp only [putW, putD, hb, if_true, hx, e]
   exact h
  ·refine pl_val (.bool true) rfl rfl (val_int .i64 _ x _ rfl rfl rfl (by simp only [intOp]; rw [show (W.getD i.toNat 0 != x) = true by simpa using hx]) w1) ?_
   refine au ?_
   refine pl_val _ rfl rfl (val_indexArr i.toNat hT rfl rfl rfl rfl hI (by omega) w1) ?_
   refine pl_op rfl rfl (opTo_store [.int .i64 x] rfl rfl rfl rfl (by kernel_rfl) h.blk (by rw [mcells_length h.wl h.dl]; simp; omega) (by simp; rfl) ?_)
   rw [m_setW h.wl hlt]
   have hk2 : Keep [m] w1 (w1.setRow m (mcells s (W.set i.toNat x) D).toArray) := (Keep.refl _ _).setRow _ _ (.inl (by simp))
   have h2 : MemV (w1.setRow m (mcells s (W.set i.toNat x) D).toArray) m s (W.set i.toNat x) D := ⟨h.blk.set _, by simpa using h.wl, h.dl⟩
   generalize (w1.setRow m (mcells s (W.set i.toNat x) D).toArray) = w2 at *
   refine au ?_
   refine pl_val (.int .i64 ((i.toNat / 8 : Nat) : Int)) rfl rfl (val_quo .i64 i 8 _ rfl rfl rfl (by decide) (by rw [hI]; exact quo8 i.toNat (by omega)) w2) ?_
   refine au ?_
   refine pl_val _ rfl rfl (val_indexArr (i.toNat / 8) hT rfl rfl rfl rfl rfl (by omega) w2) ?_
   refine pl_op rfl rfl (opTo_store [.bool true] rfl rfl rfl rfl (by kernel_rfl) h2.blk (by rw [mcells_length h2.wl h2.dl]; simp; omega) (by simp; rfl) ?_)
   rw [m_setD h2.wl h2.dl (by omega)]
   refine au ?_
   refine rn_ret Tryz.func210 (.inl ⟨_, rfl, rfl⟩) ⟨rfl, ?_, hk2.setRow _ _ (.inl (by simp))⟩
   simp only [putW, putD, hb, if_true, hx, if_false]
   exact ⟨h2.blk.set _, h2.wl, by simpa using h2.dl⟩
end
end
section
open Go.Proofs
theorem built_pg0 (i : Int) : Tryz.prog.built 337 [(0, Value.int .i64 i)] = some (pcell (i, List.replicate 8 0)).toArray := by kernel_rfl
section
variable {w : World} {m s : Nat} {W : List Int} {D : List Bool}
theorem page_ret (h : MemV w m s W D) {n : Nat} (hn : n < 14) : Ret Tryz.prog 282 [.pointer (some ⟨m, 0, none⟩), .int .i64 (n : Nat)] w fun v w' => v = .agg (pcell ((n : Nat), page W n)).toArray ∧ Keep [] w w' := by
 refine ret_of 18 Tryz.func282 rfl rfl (by simp) ?_
 refine au ?_
 refine pl_op rfl rfl (opTo_alloc _ rfl zero_page ?_)
 have hk1 : Keep [] w (w.alloc (.cells (pcell (0, List.replicate 8 0)).toArray 337)) := (Keep.refl _ _).alloc _
 have hr1 := Blk.new w (pcell (0, List.replicate 8 0)) 337
 generalize (w.alloc (.cells (pcell (0, List.replicate 8 0)).toArray 337)) = w1 at *
 refine au ?_
 refine pl_val _ rfl rfl (val_build _ rfl rfl (built_pg0 (n : Nat)) w1) ?_
 refine pl_op rfl rfl (opTo_alloc _ rfl zero_page ?_)
 have hk2 := hk1.alloc (.cells (pcell (0, List.replicate 8 0)).toArray 337)
 have hr2 := hr1.alloc (.cells (pcell (0, List.replicate 8 0)).toArray 337)
 have hp2 := Blk.new w1 (pcell (0, List.replicate 8 0)) 337
 have hne : w.heap.size ≠ w1.heap.size := by have := hr1.lt; omega
 have hle := hk1.size
 generalize (w1.alloc (.cells (pcell (0, List.replicate 8 0)).toArray 337)) = w2 at *
 generalize w1.heap.size = p at *
 refine pl_op rfl rfl (opTo_store (pcell ((n : Nat), List.replicate 8 0)) rfl rfl rfl rfl (by rw [pcell_length rfl]; decide +kernel) hp2 (by rw [pcell_length rfl]; decide) (pcell_one _) ?_)
 rw [splice_all (by rfl)]
 have hk3 := hk2.setRow p (pcell ((n : Nat), List.replicate 8 0)).toArray (.inr hle)
 have hr3 := hr2.other (pcell ((n : Nat), List.replicate 8 0)).toArray hne
 have hp3 := hp2.set (pcell ((n : Nat), List.replicate 8 0))
 generalize (w2.setRow p (pcell ((n : Nat), List.replicate 8 0)).toArray) = w3 at *
 clear hk1 hk2 hr1 hr2 hp2
 refine au ?_
 refine rn_draw (fun _ => True) [] hMix ?_
 refine tk 0 ?_
 refine dr_any 1 _ rfl (by decide +kernel) rfl rfl (fun w' => val_sliceArr hT rfl rfl rfl w') ?_
 refine tk 2 ?_
 refine tk 3 ?_
 refine tk 4 ?_
 refine tk 5 ?_
 refine dr_any 6 (.int .i64 ((n * 8 : Nat) : Int)) rfl (by decide +kernel) rfl rfl (fun w' => val_int .i64 n 8 _ rfl rfl rfl (by simp only [intOp]; rw [wrap_i64 (by omega) (by omega)]; simp) w') ?_
 refine dr_any 7 _ rfl (by decide +kernel) rfl rfl (fun w' => val_sliceArrFrom (n * 8) hT rfl rfl rfl rfl rfl (by omega) w') ?_
 have hm3 := (h.keep hk3 (by simp)).blk
 have hm4 : Blk w3.drew m (mcells s W D) 283 := hm3
 have hp4 : Blk w3.drew p (pcell ((n : Nat), List.replicate 8 0)) 337 := hp3
 have h8 := page_length h.wl hn
 refine dr_op 8 rfl (by decide +kernel) rfl rfl (opTo_copy (ints (page W n)) rfl rfl rfl (by decide +kernel) hp4 (by rw [ints_length, h8]; show 8 = min (112 - n * 8) 8; omega) (hm4.range (by rw [ints_length, h8, Nat.mul_one]; exact m_page h.wl hn)) (by rw [ints_length, h8, pcell_length rfl]; decide) (ints_one _) fun r => ⟨fun _ => trivial, ?_⟩)
 rw [show splice (pcell (((n : Nat) : Int), List.replicate 8 0)) (0 + 1) (ints (page W n)) = pcell ((n : Nat), page W n) by
  obtain ⟨a, b, c, d, e, f, g, j, hl⟩ := list8 h8
  rw [hl]
  rfl]
 refine dr_done (by decide +kernel) ?_
 have hk5 := (hk3.drew).setRow p (pcell ((n : Nat), page W n)).toArray (.inr hle)
 have hr5 : Blk (w3.drew.setRow p (pcell ((n : Nat), page W n)).toArray) w.heap.size (pcell (0, List.replicate 8 0)) 337 := Blk.other (w := w3.drew) hr3 _ hne
 have hp5 := hp4.set (pcell ((n : Nat), page W n))
 generalize (w3.drew.setRow p (pcell ((n : Nat), page W n)).toArray) = w5 at *
 have h9 : (pcell ((n : Nat), page W n)).length = 9 := pcell_length h8
 refine au ?_
 refine pl_val (.agg (pcell ((n : Nat), page W n)).toArray) rfl rfl (val_load _ hT rfl rfl (by rw [h9]; rfl) (hp5.range (by simp))) ?_
 refine pl_op rfl rfl (opTo_store _ rfl rfl rfl rfl (by rw [h9]; decide +kernel) hr5 (by rw [h9]; decide) (pcell_one _) ?_)
 rw [splice_all (by rw [h9]; rfl)]
 refine au ?_
 exact rn_ret Tryz.func282 (.inr (.inr (.inl ⟨_, _, _, rfl, rfl, loadVar_agg hT (cs := pcell ((n : Nat), page W n)) (by rw [h9]; rfl) ((hr5.set _).range (by simp))⟩))) ⟨rfl, hk5.setRow _ _ (.inr (Nat.le_refl _))⟩
def dirtyTo (W : List Int) (D : List Bool) (j : Nat) : List Pg := ((List.range j).filter fun n => D.getD n false).map fun n => ((n : Nat), page W n)
def dirtyPs (W : List Int) (D : List Bool) : List Pg := dirtyTo W D 14
theorem dirtyTo_succ (W : List Int) (D : List Bool) (j : Nat) : dirtyTo W D (j + 1) = if D.getD j false then dirtyTo W D j ++ [(((j : Nat) : Int), page W j)] else dirtyTo W D j := by
 unfold dirtyTo
 have e : [j].filter (fun n => D.getD n false) = if D.getD j false then [j] else [] := by simp only [List.filter_cons, List.filter_nil]
 rw [List.range_succ, List.filter_append, List.map_append, e]
 cases D.getD j false
 ·simp only [Bool.false_eq_true, if_false, List.map_nil, List.append_nil]
 ·simp only [if_true, List.map_cons, List.map_nil]
theorem dirtyTo_len (W : List Int) (D : List Bool) (j : Nat) : (dirtyTo W D j).length ≤ j := by
 unfold dirtyTo
 rw [List.length_map]
 exact Nat.le_trans (List.length_filter_le _ _) (by simp)
theorem dirtyTo_wf {W : List Int} (h : W.length = 112) (D : List Bool) {j : Nat} (hj : j ≤ 14) : ∀ p ∈ dirtyTo W D j, p.2.length = 8 := by
 intro p hp
 obtain ⟨n, hn, rfl⟩ := List.mem_map.1 hp
 have := List.mem_range.1 (List.mem_filter.1 hn).1
 exact page_length h (by omega)
theorem pcells_snoc (l : List Pg) (p : Pg) : pcells (l ++ [p]) = pcells l ++ pcell p := by simp [pcells]
theorem own_spgs {w : World} {B : Nat} {v : Value} {ps : List Pg} (h : Own w B 337 9 v ps.length (pcells ps)) (hwf : ∀ p ∈ ps, p.2.length = 8) : Pgs w.heap.size w v ps := by
 obtain ⟨a, cap, hv⟩ := h.form
 refine ⟨⟨a, cap, hv, fun hne => ?_⟩, hwf, Nat.le_refl _⟩
 have h0 : 0 < ps.length := List.length_pos_iff.2 hne
 obtain ⟨g, cap', hv', hr⟩ := h.range (q := 0) (cs := pcells ps) (by simp) h0
 rw [hv] at hv'
 injection hv' with e1 e2 e3
 refine ⟨g, 0, e1, (h.lt g ?_).2, hr⟩
 rw [hv, e1]
 rfl
theorem dirty_ret (h : MemV w m s W D) : Ret Tryz.prog 266 [.pointer (some ⟨m, 0, none⟩)] w fun v w' => Pgs w'.heap.size w' v (dirtyPs W D) ∧ Keep [] w w' := by
 refine ret_of 23 Tryz.func266 rfl rfl (by simp) ?_
 refine au ?_
 refine pl_val (.agg (bools D).toArray) rfl rfl (val_load _ hT rfl rfl (by rw [bools_length, h.dl]; rfl) (h.blk.range (by rw [bools_length, h.dl]; exact m_D h.wl h.dl))) ?_
 refine au ?_
 refine rn_ind (fun q σ w' => ∃ j rv, q = 14 - j ∧ j ≤ 14 ∧ σ = [(0, .pointer (some ⟨m, 0, none⟩)), (3, rv), (9, .agg (bools D).toArray), (10, .int .i64 (j : Nat))] ∧ Keep [] w w' ∧ Own w' w.heap.size 337 9 rv (dirtyTo W D j).length (pcells (dirtyTo W D j)))
  (14 - 0) _ ?_ ⟨0, _, rfl, by decide, rfl, Keep.refl _ _, Own.nil _ _ _ _⟩ ?_
 ·exact ⟨rfl, rfl, rfl, rfl, trivial⟩
 rintro q σ w1 ih ⟨j, rv, hq, hj, rfl, hk1, ho1⟩
 refine au ?_
 rcases Nat.lt_or_ge j 14 with hlt | hge
 ·refine pl_val (.bool true) rfl rfl (val_int .i64 _ _ _ rfl rfl rfl (by simp [intOp]; omega) w1) ?_
  refine au ?_
  refine pl_val (.bool (D.getD j false)) rfl rfl (val_atB (bools D) _ j (len := 14) (by decide +kernel) rfl rfl rfl rfl hlt (by simp [bools, List.getD_eq_getElem?_getD, h.dl, hlt]) w1) ?_
  cases hb : D.getD j false with
  | false =>
   refine au ?_
   refine pl_val (.int .i64 ((j + 1 : Nat) : Int)) rfl rfl (val_int .i64 j 1 _ rfl rfl rfl (by simp only [intOp]; rw [wrap_i64 (by omega) (by omega)]; rfl) w1) ?_
   refine au ?_
   refine rn_sub ?_ (ih (14 - (j + 1)) _ w1 (by omega) ⟨j + 1, rv, rfl, hlt, rfl, hk1, by rw [dirtyTo_succ, hb]; exact ho1⟩)
   exact ⟨rfl, rfl, rfl, rfl, trivial⟩
  | true =>
   refine au ?_
   refine pl_op rfl rfl (opTo_call rfl rfl rfl rfl (by decide +kernel) ((page_ret (h.keep hk1 (by simp)) hlt).mono ?_))
   rintro v w2 ⟨rfl, hk2⟩
   have h8 := page_length h.wl hlt
   refine pl_op rfl rfl (opTo_buildSlice _ _ rfl rfl (slice_pg (j : Nat) h8) ?_)
   have hk3 := hk2.alloc (.cells (pcell ((j : Nat), page W j)).toArray 337)
   have hy3 := Blk.new w2 (pcell ((j : Nat), page W j)) 337
   generalize (w2.alloc (.cells (pcell ((j : Nat), page W j)).toArray 337)) = w3 at *
   have ho3 := ho1.keep hk3 (by simp)
   have hkw3 := hk1.tr0 hk3
   have hlt3 := ho3.lt
   have hll := dirtyTo_len W D j
   refine pl_op rfl rfl (opTo_app w.heap.size 337 9 72 (pcells (dirtyTo W D j)) (pcell ((j : Nat), page W j)) rfl rfl rfl (by decide +kernel) ho3 (hy3.range (by simp)) (by rw [pcell_length h8]) (pcell_one _) (by decide) (by unfold maxLen; omega) (by omega) hkw3.size ?_)
   intro g cap' w4 hown hor
   have hk4 : Keep rv.ownBlock.toList w3 w4 := by
    rcases hor with ⟨e, _, hk⟩ | ⟨_, hk, _⟩
    ·rw [e]; exact hk
    ·exact hk.of0
   have hkw4 : Keep [] w w4 := hkw3.trans hk4 fun k hk => .inr (hlt3 k (by simpa using hk)).1
   refine au ?_
   refine pl_val (.int .i64 ((j + 1 : Nat) : Int)) rfl rfl (val_int .i64 j 1 _ rfl rfl rfl (by simp only [intOp]; rw [wrap_i64 (by omega) (by omega)]; rfl) w4) ?_
   refine au ?_
   refine rn_sub ?_ (ih (14 - (j + 1)) _ w4 (by omega) ⟨j + 1, .slice (some ⟨g, 0, none⟩) ((dirtyTo W D j).length + 1) cap', rfl, hlt, rfl, hkw4, ?_⟩)
   ·exact ⟨rfl, rfl, rfl, rfl, trivial⟩
   ·rw [dirtyTo_succ, hb, if_pos rfl, pcells_snoc, List.length_append]
    exact hown
 ·refine pl_val (.bool false) rfl rfl (val_int .i64 _ _ _ rfl rfl rfl (by simp [intOp]; omega) w1) ?_
  have hj14 : j = 14 := by omega
  subst hj14
  refine au ?_
  exact rn_ret Tryz.func266 (.inl ⟨_, rfl, rfl⟩) ⟨own_spgs ho1 (dirtyTo_wf h.wl D (by decide)), hk1⟩
def catS (S : List Int) (j : Nat) : List Int := (List.range j).flatMap fun i => readS S (i : Nat)
def allS (S : List Int) : List Int := catS S 14
theorem catS_length {S : List Int} (hS : S.length = 272) : ∀ j, (catS S j).length = j * 8
 | 0 => rfl
 | j + 1 => by
  have := catS_length hS j
  unfold catS at *
  rw [List.range_succ, List.flatMap_append, List.length_append, this]
  simp [readS_length hS]
  omega
theorem catS_succ (S : List Int) (j : Nat) : catS S (j + 1) = catS S j ++ readS S (j : Nat) := by
 unfold catS
 rw [List.range_succ, List.flatMap_append]
 simp
theorem built_mem (s : Nat) : Tryz.prog.built 283 [(0, Value.pointer (some ⟨s, 0, none⟩))] = some (mcells s (List.replicate 112 0) (List.replicate 14 false)).toArray := by kernel_rfl
def newW (S : List Int) (j : Nat) : List Int := catS S j ++ List.replicate (112 - j * 8) 0
theorem newW_length {S : List Int} (hS : S.length = 272) {j : Nat} (hj : j ≤ 14) : (newW S j).length = 112 := by
 simp [newW, catS_length hS]; omega
theorem newW_succ {S : List Int} (hS : S.length = 272) {j : Nat} (hj : j < 14) : (newW S j).take (j * 8) ++ readS S (j : Nat) ++ (newW S j).drop (j * 8 + (readS S (j : Nat)).length) = newW S (j + 1) := by
 have hl := catS_length hS j
 rw [readS_length hS]
 unfold newW
 rw [List.take_append_of_le_length (by omega), List.take_of_length_le (by omega), List.drop_append, List.drop_eq_nil_of_le (by omega), List.nil_append, hl, List.drop_replicate, catS_succ]
 congr 2
 omega
theorem mnew_ret {B d : Nat} {S : List Int} {L : List Wr} {wv : Value} (hs : StoreV w s d) (hd : DiskV B w d S L wv) :
  Ret Tryz.prog 174 [.pointer (some ⟨s, 0, none⟩)] w fun v w' => ∃ m, v = .pointer (some ⟨m, 0, none⟩) ∧ w.heap.size ≤ m ∧ MemV w' m s (allS S) (List.replicate 14 false) ∧ Keep [] w w' := by
 refine ret_of 28 Tryz.func174 rfl rfl (by simp) ?_
 refine au ?_
 refine pl_val _ rfl rfl (val_build _ rfl rfl (built_mem s) w) ?_
 refine pl_op rfl rfl (opTo_box _ rfl rfl rfl ?_)
 have hk1 : Keep [] w (w.alloc (.cells (mcells s (List.replicate 112 0) (List.replicate 14 false)).toArray 283)) := (Keep.refl _ _).alloc _
 have hm1 : MemV (w.alloc (.cells (mcells s (List.replicate 112 0) (List.replicate 14 false)).toArray 283)) w.heap.size s (newW S 0) (List.replicate 14 false) := ⟨Blk.new _ _ _, by simp [newW, catS], by simp⟩
 generalize (w.alloc (.cells (mcells s (List.replicate 112 0) (List.replicate 14 false)).toArray 283)) = w1 at *
 refine au ?_
 refine rn_ind (fun q σ w' => ∃ j, q = 14 - j ∧ j ≤ 14 ∧ σ = [(3, .pointer (some ⟨w.heap.size, 0, none⟩)), (9, .int .i64 (j : Nat))] ∧ Keep [] w w' ∧ MemV w' w.heap.size s (newW S j) (List.replicate 14 false))
  (14 - 0) _ ?_ ⟨0, rfl, by decide, rfl, hk1, hm1⟩ ?_
 ·exact ⟨rfl, rfl, trivial⟩
 clear hk1 hm1
 rintro q σ w2 ih ⟨j, hq, hj, rfl, hk2, hm2⟩
 refine au ?_
 rcases Nat.lt_or_ge j 14 with hlt | hge
 ·refine pl_val (.bool true) rfl rfl (val_int .i64 _ _ _ rfl rfl rfl (by simp [intOp]; omega) w2) ?_
  refine au ?_
  refine pl_val (.pointer (some ⟨s, 0, none⟩)) rfl rfl (val_load1 hT rfl rfl rfl (hm2.blk.cell rfl)) ?_
  refine au ?_
  refine pl_op rfl rfl (opTo_call rfl rfl rfl rfl (by decide +kernel) ((sread_ret (hk2.blk hs (by simp)) (hd.keep hk2 (by simp)) (j : Nat)).mono ?_))
  rintro v w3 ⟨rfl, hk3⟩
  have hkw3 := hk2.tr0 hk3
  have hm3 := hm2.keep hk3 (by simp)
  have h8 := readS_length hd.len (j : Nat)
  refine pl_op rfl rfl (opTo_alloc _ rfl zero_words ?_)
  have hk4 := hkw3.alloc (.cells (ints (List.replicate 8 0)).toArray 254)
  have hx4 := Blk.new w3 (ints (List.replicate 8 0)) 254
  have hm4 := hm3.keep ((Keep.refl [] w3).alloc (.cells (ints (List.replicate 8 0)).toArray 254)) (by simp)
  have hle := hkw3.size
  have hne : w.heap.size ≠ w3.heap.size := by have := hm3.blk.lt; omega
  generalize (w3.alloc (.cells (ints (List.replicate 8 0)).toArray 254)) = w4 at *
  generalize w3.heap.size = x at *
  refine pl_op rfl rfl (opTo_store _ rfl rfl rfl rfl (by rw [ints_length, h8]; decide +kernel) hx4 (by rw [ints_length, h8]; decide) (ints_one _) ?_)
  rw [splice_all (by rw [ints_length, h8]; rfl)]
  have hk5 := hk4.setRow x (ints (readS S (j : Nat))).toArray (.inr hle)
  have hx5 := hx4.set (ints (readS S (j : Nat)))
  have hm5 : MemV (w4.setRow x (ints (readS S (j : Nat))).toArray) w.heap.size s (newW S j) (List.replicate 14 false) := ⟨hm4.blk.other _ hne, hm4.wl, hm4.dl⟩
  generalize (w4.setRow x (ints (readS S (j : Nat))).toArray) = w5 at *
  refine au ?_
  refine rn_draw (fun _ => True) [] hMix ?_
  refine tk 0 ?_
  refine tk 1 ?_
  refine tk 2 ?_
  refine tk 3 ?_
  refine dr_any 4 (.int .i64 ((j * 8 : Nat) : Int)) rfl (by decide +kernel) rfl rfl (fun w' => val_int .i64 j 8 _ rfl rfl rfl (by simp only [intOp]; rw [wrap_i64 (by omega) (by omega)]; simp) w') ?_
  refine dr_any 5 _ rfl (by decide +kernel) rfl rfl (fun w' => val_sliceArrFrom (j * 8) hT rfl rfl rfl rfl rfl (by omega) w') ?_
  refine dr_any 6 _ rfl (by decide +kernel) rfl rfl (fun w' => val_sliceArr hT rfl rfl rfl w') ?_
  have hb6 : Blk w5.drew w.heap.size (mcells s (newW S j) (List.replicate 14 false)) 283 := hm5.blk
  have hx6 : Blk w5.drew x (ints (readS S (j : Nat))) 254 := hx5
  refine dr_op 7 rfl (by decide +kernel) rfl rfl (opTo_copy (ints (readS S (j : Nat))) rfl rfl rfl (by decide +kernel) hb6 (by rw [ints_length, h8]; show 8 = min 8 (112 - j * 8); omega) (hx6.range (by simp)) (by rw [ints_length, h8, mcells_length hm5.wl hm5.dl]; omega) (ints_one _) fun r => ⟨fun _ => trivial, ?_⟩)
  rw [show 0 + 1 + j * 8 * 1 = 1 + j * 8 by omega, m_setWs (by rw [hm5.wl, h8]; omega), newW_succ hd.len hlt]
  refine dr_done (by decide +kernel) ?_
  have hk7 := (hk5.drew).setRow w.heap.size (mcells s (newW S (j + 1)) (List.replicate 14 false)).toArray (.inr (Nat.le_refl _))
  have hm7 : MemV (w5.drew.setRow w.heap.size (mcells s (newW S (j + 1)) (List.replicate 14 false)).toArray) w.heap.size s (newW S (j + 1)) (List.replicate 14 false) := ⟨hb6.set _, newW_length hd.len hlt, by simp⟩
  generalize (w5.drew.setRow w.heap.size (mcells s (newW S (j + 1)) (List.replicate 14 false)).toArray) = w7 at *
  refine au ?_
  refine pl_val (.int .i64 ((j + 1 : Nat) : Int)) rfl rfl (val_int .i64 j 1 _ rfl rfl rfl (by simp only [intOp]; rw [wrap_i64 (by omega) (by omega)]; rfl) w7) ?_
  refine au ?_
  refine rn_sub ?_ (ih (14 - (j + 1)) _ w7 (by omega) ⟨j + 1, rfl, hlt, rfl, hk7, hm7⟩)
  exact ⟨rfl, rfl, trivial⟩
 ·refine pl_val (.bool false) rfl rfl (val_int .i64 _ _ _ rfl rfl rfl (by simp [intOp]; omega) w2) ?_
  have hj14 : j = 14 := by omega
  subst hj14
  refine au ?_
  refine rn_ret Tryz.func174 (.inl ⟨_, rfl, rfl⟩) ⟨_, rfl, Nat.le_refl _, ?_, hk2⟩
  have e : newW S 14 = allS S := by simp [newW, allS]
  rw [e] at hm2
  exact hm2
end
end
theorem page_at {W : List Int} {n k : Nat} (hk : k < 8) : (page W n)[k]? = W[n * 8 + k]? := by
 unfold page
 rw [List.getElem?_take, if_pos hk, List.getElem?_drop]
theorem pages_take (W : List Int) : ∀ j, (List.range j).flatMap (page W) = W.take (j * 8)
 | 0 => by simp
 | j + 1 => by
  rw [List.range_succ, List.flatMap_append, pages_take W j, Nat.succ_mul, List.take_add]
  simp [page]
theorem pages_all {W : List Int} (h : W.length = 112) : (List.range 14).flatMap (page W) = W := by
 rw [pages_take, List.take_of_length_le (by omega)]
theorem allS_eq {S W : List Int} (hW : W.length = 112) (h : ∀ n, n < 14 → readS S (n : Nat) = page W n) : allS S = W := by
 rw [← pages_all hW]
 unfold allS catS
 rw [List.flatMap_def, List.flatMap_def]
 congr 1
 exact List.map_congr_left fun x hx => h x (List.mem_range.1 hx)
theorem page_allS {S : List Int} (hS : S.length = 272) {n : Nat} (hn : n < 14) : page (allS S) n = readS S (n : Nat) := by
 unfold page allS catS
 have : ∀ (l : List Nat) (j : Nat) (p : Nat), l[j]? = some p → ((l.flatMap fun i => readS S (i : Nat)).drop (j * 8)).take 8 = readS S (p : Nat) := by
  intro l
  induction l with
  | nil => intro j p h; simp at h
  | cons a r ih =>
   intro j p h
   cases j with
   | zero =>
    simp at h
    subst h
    have := readS_length hS (a : Nat)
    rw [List.flatMap_cons, Nat.zero_mul, List.drop_zero, List.take_append_of_le_length (by omega), List.take_of_length_le (by omega)]
   | succ j =>
    simp only [List.getElem?_cons_succ] at h
    have h8 := readS_length hS (a : Nat)
    rw [List.flatMap_cons, Nat.succ_mul, Nat.add_comm, ← List.drop_drop, ← h8, List.drop_left, h8]
    exact ih j p h
 exact this _ n n (by rw [List.getElem?_range hn])
def Tied (S W : List Int) (D : List Bool) : Prop := ∀ n, n < 14 → D.getD n false = false → readS S (n : Nat) = page W n
theorem lookI_dirtyTo (W : List Int) (D : List Bool) : ∀ (j n : Nat), lookI (dirtyTo W D j) (n : Nat) = if n < j ∧ D.getD n false = true then some (page W n) else none
 | 0, n => by simp [dirtyTo, lookI]
 | j + 1, n => by
  rw [dirtyTo_succ]
  have ih := lookI_dirtyTo W D j n
  cases hb : D.getD j false with
  | false =>
   rw [if_neg (by simp), ih]
   by_cases e : n = j
   ·subst e
    rw [if_neg (by omega), if_neg (by rw [hb]; simp)]
   ·have : (n < j + 1 ∧ D.getD n false = true) ↔ (n < j ∧ D.getD n false = true) := by constructor <;> (rintro ⟨h1, h2⟩; exact ⟨by omega, h2⟩)
    simp only [this]
  | true =>
   rw [if_pos rfl, lookI_snoc]
   by_cases e : n = j
   ·subst e
    rw [if_pos rfl, if_pos ⟨by omega, hb⟩]
   ·rw [if_neg (by simp only; omega), ih]
    have : (n < j + 1 ∧ D.getD n false = true) ↔ (n < j ∧ D.getD n false = true) := by constructor <;> (rintro ⟨h1, h2⟩; exact ⟨by omega, h2⟩)
    simp only [this]
theorem chkFrom_snoc : ∀ (ps : List Pg) (done : List Int) (p : Pg), chkFrom done ps = 0 → hasP p.1 = true → (done ++ ps.map (·.1)).contains p.1 = false → chkFrom done (ps ++ [p]) = 0
 | [], done, p, _, h2, h3 => by
  simp only [List.map_nil, List.append_nil] at h3
  simp only [List.nil_append, chkFrom]
  rw [if_neg (by simp [h2]), if_neg (by rw [h3]; simp)]
 | q :: r, done, p, h1, h2, h3 => by
  unfold chkFrom at h1
  simp only [List.cons_append]
  unfold chkFrom
  split at h1
  ·cases h1
  ·rename_i hq
   split at h1
   ·cases h1
   ·rename_i hc
    rw [if_neg hq, if_neg hc]
    exact chkFrom_snoc r _ p h1 h2 (by simpa [List.append_assoc] using h3)
theorem chk_dirtyTo (W : List Int) (D : List Bool) : ∀ j, j ≤ 14 → chk (dirtyTo W D j) = 0
 | 0, _ => by simp [dirtyTo, chk, chkFrom]
 | j + 1, h => by
  rw [dirtyTo_succ]
  have ih := chk_dirtyTo W D j (by omega)
  split
  ·refine chkFrom_snoc _ [] _ ih (by simp [hasP]; omega) ?_
   cases hc : (([] : List Int) ++ (dirtyTo W D j).map (fun p : Pg => p.1)).contains ((j : Nat) : Int) with
   | false => rfl
   | true =>
    rw [List.contains_iff_mem] at hc
    simp only [List.nil_append, List.mem_map] at hc
    obtain ⟨p, hp, e⟩ := hc
    obtain ⟨n, hn, rfl⟩ := List.mem_map.1 hp
    have := List.mem_range.1 (List.mem_filter.1 hn).1
    omega
  ·exact ih
theorem chk_dirty (W : List Int) (D : List Bool) : chk (dirtyPs W D) = 0 := chk_dirtyTo W D 14 (by decide)
theorem New.all {S S2 W : List Int} {D : List Bool} (h : New S (dirtyPs W D) S2) (ht : Tied S W D) : ∀ n, n < 14 → readS S2 (n : Nat) = page W n := fun n hn => by
 rw [h.look (chk_dirty W D), dirtyPs, lookI_dirtyTo]
 cases hb : D.getD n false with
 | true => rw [if_pos ⟨hn, rfl⟩]; rfl
 | false => rw [if_neg (by simp)]; exact ht n hn hb
theorem page_set {W : List Int} {i n : Nat} (x : Int) (hne : i / 8 ≠ n) : page (W.set i x) n = page W n := by
 apply List.ext_getElem?
 intro k
 by_cases hk : k < 8
 ·rw [page_at hk, page_at hk, List.getElem?_set_ne (by omega)]
 ·rw [List.getElem?_eq_none (by simp [page]; omega), List.getElem?_eq_none (by simp [page]; omega)]
theorem set_same {W : List Int} {i : Nat} {x : Int} (h : i < W.length) (hx : W.getD i 0 = x) : W.set i x = W := by
 apply List.ext_getElem?
 intro j
 rw [List.getElem?_set]
 split
 ·rename_i e
  subst e
  rw [← hx, List.getD_eq_getElem?_getD, List.getElem?_eq_getElem h]
  rfl
 ·rfl
theorem Tied.put {S W : List Int} {D : List Bool} (h : Tied S W D) (hW : W.length = 112) (hD : D.length = 14) (i x : Int) : Tied S (putW W i x) (putD W D i x) := by
 intro n hn hd
 unfold putW
 unfold putD at hd
 cases hb : hasM i with
 | false =>
  rw [hb] at hd
  simp only [Bool.false_eq_true, if_false] at hd ⊢
  exact h n hn hd
 | true =>
  have hi : 0 ≤ i ∧ i < 112 := by simpa [hasM] using hb
  rw [hb] at hd
  simp only [if_true] at hd ⊢
  by_cases hx : W.getD i.toNat 0 = x
  ·rw [if_pos hx] at hd
   rw [set_same (by omega) hx]
   exact h n hn hd
  ·rw [if_neg hx, List.getD_eq_getElem?_getD, List.getElem?_set] at hd
   by_cases e : i.toNat / 8 = n
   ·rw [if_pos e, if_pos (by omega)] at hd
    cases hd
   ·rw [if_neg e] at hd
    rw [page_set x e]
    exact h n hn (by rw [List.getD_eq_getElem?_getD]; exact hd)
theorem tied_new {S : List Int} (hS : S.length = 272) : Tied S (allS S) (List.replicate 14 false) := fun _ hn _ => (page_allS hS hn).symm
theorem tied_all {S W : List Int} (D : List Bool) (h : ∀ n, n < 14 → readS S (n : Nat) = page W n) : Tied S W D := fun n hn _ => h n hn
section
open Go.Proofs
theorem built_bools0 : Tryz.prog.built 281 [] = some (bools (List.replicate 14 false)).toArray := by kernel_rfl
def doneB (ps : List Pg) (may : Int) : Bool := decide (may < 0 ∨ may ≥ (ps.length + 5 : Nat))
def deedsN (ps : List Pg) (may : Int) : Nat := if may < 0 ∨ may ≥ (ps.length + 5 : Nat) then ps.length + 5 else may.toNat
section
variable {B : Nat} {w : World} {m s d : Nat} {W : List Int} {D : List Bool} {S : List Int} {wv : Value}
theorem sync_ret (h : MemV w m s W D) (hs : StoreV w s d) (hd : DiskV B w d S [] wv) (hg1 : genS S < 1000000) (may : Int) :
  Ret Tryz.prog 246 [.pointer (some ⟨m, 0, none⟩), .int .i64 may] w fun v w' => v = .bool (doneB (dirtyPs W D) may) ∧
   MemV w' m s W (if doneB (dirtyPs W D) may then List.replicate 14 false else D) ∧ StoreV w' s d ∧ Keep (m :: fpD d wv) w w' ∧
   ∃ wv', DiskV B w' d (doDeeds ((deedsOf S (dirtyPs W D)).take (deedsN (dirtyPs W D) may)) (S, [])).1 (doDeeds ((deedsOf S (dirtyPs W D)).take (deedsN (dirtyPs W D) may)) (S, [])).2 wv' ∧ ∀ k ∈ fpD d wv', k ∈ fpD d wv ∨ w.heap.size ≤ k := by
 refine ret_of 24 Tryz.func246 rfl rfl (by simp) ?_
 have hps := chk_dirty W D
 have hlen : (dirtyPs W D).length ≤ 14 := dirtyTo_len W D 14
 refine au ?_
 have hb0 : Blk w.drew m (mcells s W D) 283 := h.blk
 refine rn_draw (fun w' => Blk w' m (mcells s W D) 283) [] hMix ?_
 refine tk 0 ?_
 refine tk 1 ?_
 refine tk 2 ?_
 refine dr_val 3 (.pointer (some ⟨s, 0, none⟩)) rfl (by decide +kernel) rfl rfl (fun w' hk => val_load1 hT rfl rfl rfl (hk.cell rfl)) hb0 ?_
 refine tk 4 ?_
 refine tk 6 ?_
 have hk0 : Keep [] w w.drew := (Keep.refl _ _).drew
 refine dr_op 5 rfl (by decide +kernel) rfl rfl (opTo_call rfl rfl rfl rfl (by decide +kernel) ((dirty_ret (h.keep hk0 (by simp))).mono ?_))
 rintro v w1 ⟨hp1, hk1⟩
 have hkw1 := hk0.tr0 hk1
 have h1 := h.keep hkw1 (by simp)
 have hs1 : StoreV w1 s d := hkw1.blk hs (by simp)
 have hd1 := hd.keep hkw1 (by simp)
 refine ⟨fun _ => h1.blk, ?_⟩
 have hm1 : m ∉ fpD d wv := not_fp hd1 h1.blk (by decide)
 have hsn : s ∉ fpD d wv := not_fp hd1 hs1 (by decide)
 refine dr_op 7 rfl (by decide +kernel) rfl rfl (opTo_call rfl rfl rfl rfl (by decide +kernel) ((commit_ret hs1 hd1 hp1 (by omega) (by decide) (genS_nonneg S) hg1 may hps (deedsN (dirtyPs W D) may) rfl).mono ?_))
 rintro v w2 ⟨rfl, wv2, hd2, hk2, hf2⟩
 have hkw2 : Keep (fpD d wv) w w2 := (hkw1.of0).tr hk2
 have h2 := h1.keep hk2 hm1
 have hs2 : StoreV w2 s d := hk2.blk hs1 hsn
 refine ⟨fun _ => h2.blk, ?_⟩
 have hfin : ∀ k ∈ fpD d wv2, k ∈ fpD d wv ∨ w.heap.size ≤ k := fun k hk => (hf2 k hk).imp id fun h1 => Nat.le_trans hkw1.size h1
 refine tk 8 ?_
 refine tk 9 ?_
 refine tk 10 ?_
 refine tk 11 ?_
 refine tk 12 ?_
 refine dr_done (by decide +kernel) ?_
 change Rn _ _ _ _ _ _ _
 rw [show decide (may < 0 ∨ may ≥ ((dirtyPs W D).length + 5 : Nat)) = doneB (dirtyPs W D) may from rfl]
 cases hb : doneB (dirtyPs W D) may with
 | false =>
  refine au ?_
  exact rn_ret Tryz.func246 (.inl ⟨_, rfl, rfl⟩) ⟨rfl, h2, hs2, hkw2.mono fun k hk => .inl (by simp [hk]), wv2, hd2, hfin⟩
 | true =>
  refine au ?_
  refine pl_val _ rfl rfl (val_build _ rfl rfl built_bools0 w2) ?_
  refine au ?_
  refine pl_op rfl rfl (opTo_store (bools (List.replicate 14 false)) rfl rfl rfl rfl (by kernel_rfl) h2.blk (by rw [mcells_length h2.wl h2.dl]; decide) (bools_one _) ?_)
  rw [show 0 + 113 = 113 from rfl, m_setDs h2.wl (by rw [h2.dl]; rfl)]
  have hk3 : Keep [m] w2 (w2.setRow m (mcells s W (List.replicate 14 false)).toArray) := (Keep.refl _ _).setRow _ _ (.inl (by simp))
  have hm2 : m ∉ fpD d wv2 := not_fp hd2 h2.blk (by decide)
  refine au ?_
  refine rn_ret Tryz.func246 (.inl ⟨_, rfl, rfl⟩) ⟨rfl, ⟨h2.blk.set _, h2.wl, by simp⟩, hk3.blk hs2 (by simp; exact Blk.ne hs2 h2.blk (by decide)), ?_, wv2, hd2.keep hk3 fun k hk hm => hm2 (by simp at hm; rw [← hm]; exact hk), hfin⟩
  exact (hkw2.mono fun k hk => .inl (by simp [hk])).trans hk3 fun k hk => .inl (by simp at hk; simp [hk])
end
end
section
open Go.Proofs
structure St (B : Nat) (w : World) (d s m : Nat) (S W : List Int) (D : List Bool) (wv : Value) : Prop where
 mem : MemV w m s W D
 sto : StoreV w s d
 dsk : DiskV B w d S [] wv
 good : Good S
 tied : Tied S W D
 hm : B ≤ m
section
variable {B : Nat} {w w' : World} {d s m : Nat} {S W : List Int} {D : List Bool} {wv : Value}
theorem St.keep0 (h : St B w d s m S W D wv) (hk : Keep [] w w') : St B w' d s m S W D wv := ⟨h.mem.keep hk (by simp), hk.blk h.sto (by simp), h.dsk.keep hk (by simp), h.good, h.tied, h.hm⟩
theorem St.nm (h : St B w d s m S W D wv) : m ∉ fpD d wv := not_fp h.dsk h.mem.blk (by decide)
theorem puts_ret (h : St B w d s m S W D wv) (i x : Int) : Ret Tryz.prog 210 [.pointer (some ⟨m, 0, none⟩), .int .i64 i, .int .i64 x] w fun v w' => v = .bool (hasM i) ∧ St B w' d s m S (putW W i x) (putD W D i x) wv ∧ Keep [m] w w' := by
 refine (put_ret h.mem i x).mono ?_
 rintro v w1 ⟨rfl, h1, hk1⟩
 refine ⟨rfl, ⟨h1, hk1.blk h.sto (by simp; exact Blk.ne h.sto h.mem.blk (by decide)), h.dsk.keep hk1 fun k hk hm => h.nm (by simp at hm; rw [← hm]; exact hk), h.good, h.tied.put h.mem.wl h.mem.dl i x, h.hm⟩, hk1⟩
end
theorem doneB_neg (ps : List Pg) : doneB ps (-1) = true := by simp [doneB]
theorem allS0 : allS S0 = List.replicate 112 0 := by decide +kernel
theorem fresh_st {B : Nat} {w w' : World} {d s m : Nat} {S : List Int} {wv : Value} (hm : MemV w' m s (allS S) (List.replicate 14 false)) (hs : StoreV w s d) (hd : DiskV B w d S [] wv) (hG : Good S) (hk : Keep [] w w') (hB : B ≤ m) : St B w' d s m S (allS S) (List.replicate 14 false) wv :=
 ⟨hm, hk.blk hs (by simp), hd.keep hk (by simp), hG, tied_new hG.len, hB⟩
end
section
open Go.Proofs
abbrev tPr : Nat := 206
structure Enc (W : List Int) (m : Md) : Prop where
 next : W[0]? = some (m.next : Int)
 many : W[1]? = some (m.stack.length : Int)
 read : W[2]? = some (m.read : Int)
 out : W[3]? = some (m.out : Int)
 state : W[4]? = some (m.state : Int)
 cells : ∀ i x, m.cells[i]? = some x → W[5 + i]? = some x
 stack : ∀ i x, m.stack[i]? = some x → W[53 + i]? = some x
theorem enc0 (c : Nat) (hc : c ≤ 48) : Enc (List.replicate 112 0) (mind0 c) where
 next := rfl
 many := rfl
 read := rfl
 out := rfl
 state := rfl
 cells := fun i x h => by
  have hi := (List.getElem?_eq_some_iff.1 h).1
  simp only [mind0, List.length_replicate] at hi
  simp only [mind0, List.getElem?_replicate, hi, if_true, Option.some.injEq] at h
  subst h
  rw [List.getElem?_replicate, if_pos (by omega)]
 stack := fun i x h => by simp [mind0] at h
def fpM (d s m : Nat) (wv : Value) : List Nat := m :: s :: fpD d wv
def putI (p : Pr) (k n : Int) : Pr := if k = (p.1.length : Int) then (p.1 ++ [n], p.2) else if 0 ≤ k ∧ p.1[k.toNat]? = some n then p else (p.1, true)
theorem putI_nat (p : Pr) (k : Nat) (n : Int) : putI p (k : Nat) n = putP p k n := by
 unfold putI putP
 by_cases h : k = p.1.length
 ·rw [if_pos (by omega), if_pos h]
 ·rw [if_neg (by omega), if_neg h]
  simp
structure Mx where
 L : List Is
 inp : List Int
 m : Nat
 q : Nat
 md : Md
 pr : Pr
 left : Int
 torn : Bool
 gen : Int
def Mx.go (M : Mx) (g : Int) : Mx := { M with md := (stB M.L M.inp M.md M.pr).1, pr := (stB M.L M.inp M.md M.pr).2, gen := g }
structure Wo (c : Nat) (Q : List Is) (M : Mx) (i : Nat) : Prop where
 prg : Prg c Q
 c48 : c ≤ 48
 code : M.L = Q ++ [haltI]
 fit : Fit c Q M.md M.pr
 inp : M.inp.length ≤ 1000
 out : M.pr.1.length ≤ i
 read : M.md.read ≤ i
 gen0 : 0 ≤ M.gen
 gen : M.gen ≤ i
 state : M.md.state ≤ 14
def Bnd (m : Md) (p : Pr) (r : Md × Pr) : Prop := r.2.1.length ≤ p.1.length + 1 ∧ r.1.read ≤ m.read + 1 ∧ r.1.state ≤ 14 ∧ r.1.cells.length = m.cells.length
theorem exI_bnd (inp : List Int) (x : Is) (m : Md) (p : Pr) (hs : m.state ≤ 14) : Bnd m p (exI inp x m p) := by
 have hp : (putP p m.out (topS m.stack)).1.length ≤ p.1.length + 1 := by
  unfold putP
  split
  ·simp
  ·split <;> simp
 unfold exI
 by_cases e1 : x.1 = 1
 ·rw [if_pos e1]
  exact ⟨Nat.le_succ _, Nat.le_succ _, hs, rfl⟩
 rw [if_neg e1]
 by_cases e2 : x.1 = 2
 ·rw [if_pos e2]
  exact ⟨Nat.le_succ _, Nat.le_succ _, hs, rfl⟩
 rw [if_neg e2]
 by_cases e3 : x.1 = 3
 ·rw [if_pos e3]
  split
  ·exact ⟨Nat.le_succ _, Nat.le_succ _, hs, rfl⟩
  ·exact ⟨Nat.le_succ _, Nat.le_succ _, (by decide : (13 : Nat) ≤ 14), rfl⟩
 rw [if_neg e3]
 by_cases e4 : 4 ≤ x.1 ∧ x.1 ≤ 8
 ·rw [if_pos e4]
  exact ⟨Nat.le_succ _, Nat.le_succ _, hs, rfl⟩
 rw [if_neg e4]
 by_cases e9 : x.1 = 9
 ·rw [if_pos e9]
  exact ⟨Nat.le_succ _, Nat.le_succ _, hs, List.length_set⟩
 rw [if_neg e9]
 by_cases e10 : x.1 = 10
 ·rw [if_pos e10]
  split
  ·exact ⟨Nat.le_succ _, Nat.le_succ _, hs, List.length_set⟩
  ·exact ⟨Nat.le_succ _, Nat.le_succ _, (by decide : (13 : Nat) ≤ 14), rfl⟩
 rw [if_neg e10]
 by_cases e11 : x.1 = 11
 ·rw [if_pos e11]
  exact ⟨hp, Nat.le_succ _, hs, rfl⟩
 rw [if_neg e11]
 by_cases e12 : x.1 = 12
 ·rw [if_pos e12]
  split
  ·exact ⟨Nat.le_succ _, Nat.le_refl _, hs, List.length_set⟩
  ·exact ⟨Nat.le_succ _, Nat.le_succ _, (by decide : (14 : Nat) ≤ 14), rfl⟩
 rw [if_neg e12]
 by_cases e13 : x.1 = 13
 ·rw [if_pos e13]
  exact ⟨Nat.le_succ _, Nat.le_succ _, hs, rfl⟩
 rw [if_neg e13]
 by_cases e14 : x.1 = 14
 ·rw [if_pos e14]
  exact ⟨Nat.le_succ _, Nat.le_succ _, hs, rfl⟩
 rw [if_neg e14]
 by_cases e16 : x.1 = 16
 ·rw [if_pos e16]
  exact ⟨Nat.le_succ _, Nat.le_succ _, (by decide : (1 : Nat) ≤ 14), rfl⟩
 rw [if_neg e16]
 exact ⟨Nat.le_succ _, Nat.le_succ _, hs, rfl⟩
theorem stB_bnd (W : List Is) (inp : List Int) (m : Md) (p : Pr) (hs : m.state ≤ 14) : (stB W inp m p).2.1.length ≤ p.1.length + 1 ∧ (stB W inp m p).1.read ≤ m.read + 1 ∧ (stB W inp m p).1.state ≤ 14 ∧ (stB W inp m p).1.cells.length = m.cells.length := by
 unfold stB
 split
 ·exact exI_bnd inp _ m p hs
 ·exact ⟨Nat.le_succ _, Nat.le_succ _, hs, rfl⟩
def LsR (R : Nat → Prop) (w : World) (v : Value) (l : List Int) : Prop := ∃ a cap, v = .slice a l.length cap ∧ (0 < l.length → ∃ b q, a = some ⟨b, q, none⟩ ∧ R b ∧ w.rangeAt b q (lgs l))
end
section
open Go.Proofs
theorem RowL.low {w : World} {B B' : Nat} {v : Value} {l : List Int} (h : RowL w B v l) (hB : B' ≤ B) : RowL w B' v l := by
 refine ⟨h.1, ?_⟩
 rcases h.2 with h0 | ⟨g, cap, cur, h1, h2, r⟩
 ·exact .inl h0
 ·exact .inr ⟨g, cap, cur, h1, Nat.le_trans hB h2, r⟩
end
section
open Go.Proofs
section
variable {P : Program} {T : Tbl} {n : Nat} {σ : Env} {o : Oper}
theorem val_isNil {t t' : TypeId} {x : Operand} {len cap sz : Nat} (hT : T.check P = true) (ho : o.op = .binOp .eql t x (.const (.slice none 0 0)) t') (hx : ev σ x = some (.slice none len cap)) (ht : find T.sl t = some sz) (w : World) : Val P n σ o w (.bool true) := by
 intro a ha
 have hs := Tbl.sl_ok hT ht
 unfold slOk at hs
 split at hs
 ·rename_i e hu
  have he : ∀ d, (Op.equalIn (d + 1) t (.slice none len cap) (.slice none 0 0)).run P w = .ok true w := fun d => by
   simp [Op.equalIn, run_underlying hu]
  have he' : (Op.equal t (.slice none len cap) (.slice none 0 0)).run P w = .ok true w := he 9999
  have hc : a.eval (.const (.slice none 0 0)) = .slice none 0 0 := rfl
  simp [execOp, ho, ha.eval hx, hc, eqGuard, binOp, he']
 ·cases hs
theorem mval_min {t : TypeId} {x y : Operand} {kk : IntKind} {a b : Int} (r : Int) (ho : o.op = .call { callee := .builtin .min, args := #[x, y], argTypes := #[t, t] }) (hx : ev σ x = some (.int kk a)) (hy : ev σ y = some (.int kk b)) (hr : (if b < a then b else a) = r) (w : World) : Val P n σ o w (.int kk r) := by
 intro ac ha
 simp [execOp, ho, resolve, invoke, builtin, ha.eval hx, ha.eval hy, Builtin.min_, Builtin.min2, hr]
theorem mval_max {t : TypeId} {x y : Operand} {kk : IntKind} {a b : Int} (r : Int) (ho : o.op = .call { callee := .builtin .max, args := #[x, y], argTypes := #[t, t] }) (hx : ev σ x = some (.int kk a)) (hy : ev σ y = some (.int kk b)) (hr : (if b > a then b else a) = r) (w : World) : Val P n σ o w (.int kk r) := by
 intro ac ha
 simp only [gt_iff_lt] at hr
 simp [execOp, ho, resolve, invoke, builtin, ha.eval hx, ha.eval hy, Builtin.max_, Builtin.max2, hr]
end
theorem cloneL_ret {w : World} {v : Value} {l : List Int} (h : LsV w v l) (hl : l.length ≤ 1000000) : Ret Tryz.prog 134 [v] w fun r w' => RowL w' w.heap.size r l ∧ Keep [] w w' := by
 obtain ⟨a, cap, rfl, h2⟩ := h
 refine ret_of 8 Tryz.func134 rfl rfl (by simp) ?_
 cases a with
 | none =>
  have h0 : l = [] := List.eq_nil_of_length_eq_zero (by
   rcases Nat.eq_zero_or_pos l.length with h | h
   ·exact h
   ·obtain ⟨_, _, e, _⟩ := h2 h
    cases e)
  subst h0
  refine au ?_
  refine pl_val (.bool true) rfl rfl (val_isNil hT rfl rfl rfl w) ?_
  refine au ?_
  exact rn_ret Tryz.func134 (.inl ⟨_, rfl, rfl⟩) ⟨RowL.nil _ _, Keep.refl _ _⟩
 | some ad =>
  refine au ?_
  refine pl_val (.bool false) rfl rfl (val_notNil hT rfl rfl rfl w) ?_
  refine au ?_
  refine pl_op rfl rfl (opTo_sliceN tLg [] rfl rfl (by kernel_rfl) ?_)
  intro w1 g hg hs1 hk1 hb1
  have hown : Own w1 w.heap.size tLg 1 (.slice (some ⟨g, 0, none⟩) 0 0) 0 [] := ⟨rfl, .inr ⟨g, 0, [], rfl, by omega, hb1, Nat.le_refl _, by simp, rfl⟩⟩
  refine au ?_
  by_cases h0 : 0 < l.length
  ·obtain ⟨b, q, e, hb, hr⟩ := h2 h0
   cases e
   refine pl_op rfl rfl (opTo_app w.heap.size tLg 1 8 [] (lgs l) rfl rfl rfl app_lg hown (range_keep hr hk1 hb (by simp)) (by rw [lgs_length]; omega) (lgs_one l) h0 (by unfold maxLen; omega) (by omega) hk1.size ?_)
   intro g2 c2 w2 hown2 hcase
   rw [Nat.zero_add, List.nil_append] at hown2
   rw [Nat.zero_add]
   refine au ?_
   refine rn_ret Tryz.func134 (.inl ⟨_, rfl, rfl⟩) ⟨hown2, ?_⟩
   rcases hcase with ⟨h3, _, h5⟩ | ⟨_, h4, _⟩
   ·refine hk1.trans h5 fun k hk => .inr ?_
    have h3 : some g = some g2 := h3
    injection h3 with h3
    rw [List.mem_singleton.1 hk]
    omega
   ·exact hk1.tr h4
  ·have h0 : l = [] := List.eq_nil_of_length_eq_zero (by omega)
   subst h0
   refine pl_op rfl rfl (opTo_appZ (ln := 0) rfl rfl rfl app_lg hown ?_)
   refine au ?_
   exact rn_ret Tryz.func134 (.inl ⟨_, rfl, rfl⟩) ⟨hown, hk1⟩
def prC (v : Value) (p : Pr) : List Value := [v, .int .i64 (if p.2 then 15 else 0)]
def pz0 : List Value := [.slice none 0 0, .int .i64 0]
theorem nePL : tPr ≠ tLg := by decide
structure Pv (R : Nat → Prop) (B : Nat) (w : World) (q : Nat) (v : Value) (p : Pr) : Prop where
 blk : Blk w q (prC v p) tPr
 row : RowL w B v p.1
 ge : B ≤ q
 ro : ∀ k, R k → k < w.heap.size
 nr : ∀ k ∈ q :: obs v, ¬ R k
def PVm (R : Nat → Prop) (B : Nat) (w : World) (q : Nat) (fq : List Nat) (p : Pr) : Prop := ∃ v, fq = q :: obs v ∧ Pv R B w q v p
section
variable {R : Nat → Prop} {B : Nat} {w w' : World} {q : Nat} {fq fp2 : List Nat} {p : Pr} {v : Value}
theorem Pv.lt (h : Pv R B w q v p) : ∀ k ∈ q :: obs v, B ≤ k ∧ k < w.heap.size ∧ ¬ R k := fun k hk => by
 refine ⟨?_, ?_, h.nr k hk⟩
 ·rcases List.mem_cons.1 hk with rfl | hk
  ·exact h.ge
  ·exact (h.row.lt k hk).1
 ·rcases List.mem_cons.1 hk with rfl | hk
  ·exact h.blk.lt
  ·exact (h.row.lt k hk).2
theorem Pv.keep (h : Pv R B w q v p) (hk : Keep fp2 w w') (hn : ∀ k ∈ fp2, k ∉ q :: obs v) : Pv R B w' q v p :=
 ⟨hk.blk h.blk fun hm => hn q hm (by simp), h.row.keep hk fun k hk hm => hn k hm (by simp [hk]), h.ge, fun k hR => Nat.lt_of_lt_of_le (h.ro k hR) hk.size, h.nr⟩
theorem Pv.keep0 (h : Pv R B w q v p) (hk : Keep [] w w') : Pv R B w' q v p := h.keep hk fun k hk => by cases hk
theorem pput_ret (h : PVm R B w q fq p) (hl : p.1.length ≤ 400000) (k n : Int) : Ret Tryz.prog 264 [.pointer (some ⟨q, 0, none⟩), .int .i64 k, .int .i64 n] w fun r w' => r = .tuple #[] ∧ ∃ fq', PVm R B w' q fq' (putI p k n) ∧ Keep fq w w' ∧ ∀ k ∈ fq', k ∈ fq ∨ w.heap.size ≤ k := by
 obtain ⟨v, rfl, h⟩ := h
 obtain ⟨a, cap, rfl⟩ := h.row.form
 refine ret_of 48 Tryz.func264 rfl rfl (by simp) ?_
 refine lB h.blk ?_
 refine au ?_
 by_cases he : k = (p.1.length : Nat)
 ·refine ye ?_
  refine lB h.blk ?_
  refine au ?_
  refine pl_op rfl rfl (opTo_sliceN tLg [.int .i64 n] rfl rfl (slice_lg n) ?_)
  intro w1 g hg hs1 hk1 hb1
  have h1 := h.keep0 hk1
  have hBw : B ≤ w1.heap.size := Nat.le_trans h1.ge (Nat.le_of_lt h1.blk.lt)
  refine pl_op rfl rfl (opTo_app B tLg 1 8 (lgs p.1) [.int .i64 n] rfl rfl rfl app_lg h1.row (hb1.range rfl) rfl (one_v rfl) (by decide) (by unfold maxLen; omega) (by omega) hBw ?_)
  intro g2 cap2 w2 hown2 hcase
  have hrow2 : RowL w2 B (.slice (some ⟨g2, 0, none⟩) (p.1.length + 1) cap2) (p.1 ++ [n]) := by
   have e1 : (p.1 ++ [n]).length = p.1.length + 1 := by simp
   have e2 : lgs (p.1 ++ [n]) = lgs p.1 ++ [.int .i64 n] := by rw [lgs_app]; rfl
   unfold RowL
   rw [e1, e2]
   exact hown2
  have hk2 : Keep (obs (.slice a p.1.length cap)) w1 w2 := by
   rcases hcase with ⟨h3, _, h4⟩ | ⟨_, h4, _⟩
   ·rw [obs, h3]; exact h4
   ·exact h4.of0
  have hob : ∀ x ∈ obs (.slice (some ⟨g2, 0, none⟩) (p.1.length + 1) cap2), x ∈ obs (.slice a p.1.length cap) ∨ w.heap.size ≤ x := fun x hx => by
   have hx : x = g2 := by simpa [obs, Value.ownBlock] using hx
   subst hx
   rcases hcase with ⟨h3, _, _⟩ | ⟨h3, _, _⟩
   ·exact .inl (mem_obs.2 h3)
   ·exact .inr (by omega)
  have hbk2 := hk2.blk h1.blk fun hm => h1.row.ne h1.blk nePL q hm (by simp)
  refine au ?_
  refine pl_op rfl rfl (opTo_storeN [.slice (some ⟨g2, 0, none⟩) (p.1.length + 1) cap2] rfl rfl rfl rfl size_ls hbk2 (by simp [prC]) (one_v rfl) ?_)
  intro w3 hs3 hk3 hb3
  refine au ?_
  refine rn_end Tryz.func264 (.inr (.inl ⟨rfl, rfl⟩)) ⟨rfl, q :: obs (.slice (some ⟨g2, 0, none⟩) (p.1.length + 1) cap2), ⟨_, rfl, ?_, ?_, h.ge, ?_, ?_⟩, ?_, ?_⟩
  ·unfold putI
   rw [if_pos he]
   exact hb3
  ·unfold putI
   rw [if_pos he]
   exact hrow2.keep hk3 (hrow2.ne hbk2 nePL)
  ·intro k hR
   have := h.ro k hR
   have := hk1.size
   have := hk2.size
   omega
  ·intro x hx hR
   rcases List.mem_cons.1 hx with rfl | hx
   ·exact h.nr _ (by simp) hR
   ·rcases hob x hx with h4 | h4
    ·exact h.nr _ (by simp [h4]) hR
    ·have := h.ro x hR; omega
  ·refine (hk1.of0.trans hk2 fun x hx => .inl (by simp [hx])).trans hk3 fun x hx => .inl ?_
   rw [List.mem_singleton.1 hx]
   simp
  ·intro x hx
   rcases List.mem_cons.1 hx with rfl | hx
   ·exact .inl (by simp)
   ·rcases hob x hx with h4 | h4
    ·exact .inl (by simp [h4])
    ·exact .inr h4
 ·refine nay ?_
  have bad : ∀ {w3 : World}, ¬ (0 ≤ k ∧ p.1[k.toNat]? = some n) → w3.heap.size = w.heap.size → Keep [q] w w3 → Blk w3 q (splice (prC (.slice a p.1.length cap) p) 1 [.int .i64 15]) tPr → ∃ fq', PVm R B w3 q fq' (putI p k n) ∧ Keep (q :: obs (.slice a p.1.length cap)) w w3 ∧ ∀ x ∈ fq', x ∈ q :: obs (.slice a p.1.length cap) ∨ w.heap.size ≤ x := fun {w3} hc hs3 hk3 hb3 => by
   refine ⟨_, ⟨.slice a p.1.length cap, rfl, ?_, ?_, h.ge, ?_, h.nr⟩, ?_, fun x hx => .inl hx⟩
   ·unfold putI
    rw [if_neg he, if_neg hc]
    exact hb3
   ·unfold putI
    rw [if_neg he, if_neg hc]
    exact h.row.keep hk3 (h.row.ne h.blk nePL)
   ·intro x hR
    rw [hs3]
    exact h.ro x hR
   ·exact hk3.mono fun x hx => .inl (by rw [List.mem_singleton.1 hx]; simp)
  refine au ?_
  by_cases h0 : k < 0
  ·refine ye ?_
   refine au ?_
   refine pl_op rfl rfl (opTo_storeN [.int .i64 15] rfl rfl rfl rfl size_in h.blk (by simp [prC]) (one_in _) ?_)
   intro w3 hs3 hk3 hb3
   refine au ?_
   exact rn_end Tryz.func264 (.inr (.inl ⟨rfl, rfl⟩)) ⟨rfl, bad (fun hc => by omega) hs3 hk3 hb3⟩
  ·refine nay ?_
   refine au ?_
   by_cases h1 : k > (p.1.length : Nat)
   ·refine ye ?_
    refine au ?_
    refine pl_op rfl rfl (opTo_storeN [.int .i64 15] rfl rfl rfl rfl size_in h.blk (by simp [prC]) (one_in _) ?_)
    intro w3 hs3 hk3 hb3
    refine au ?_
    exact rn_end Tryz.func264 (.inr (.inl ⟨rfl, rfl⟩)) ⟨rfl, bad (fun hc => by have := (List.getElem?_eq_some_iff.1 hc.2).1; omega) hs3 hk3 hb3⟩
   ·refine nay ?_
    refine lB h.blk ?_
    obtain ⟨j, rfl⟩ : ∃ j : Nat, k = (j : Nat) := ⟨k.toNat, by omega⟩
    have hj : j < p.1.length := by omega
    obtain ⟨x, hxe⟩ : ∃ x, x = p.1[j] := ⟨_, rfl⟩
    have hx : p.1[j]? = some x := by rw [List.getElem?_eq_getElem hj, hxe]
    obtain ⟨g, cap', hv, hc⟩ := h.row.at hx
    cases hv
    refine au ?_
    refine pl_val _ rfl rfl (val_index j hT rfl rfl rfl rfl rfl hj w) ?_
    refine pl_val _ rfl rfl (val_load1 hT rfl rfl rfl ((by rw [Nat.zero_add, Nat.mul_one]; exact hc))) ?_
    refine au ?_
    by_cases hxn : x = n
    ·refine nay ?_
     refine au ?_
     refine rn_end Tryz.func264 (.inr (.inl ⟨rfl, rfl⟩)) ⟨rfl, _, ⟨_, rfl, ?_⟩, Keep.refl _ _, fun x hx => .inl hx⟩
     unfold putI
     rw [if_neg he, if_pos ⟨by omega, by rw [Int.toNat_natCast, hx, hxn]⟩]
     exact h
    ·refine ye ?_
     refine au ?_
     refine pl_op rfl rfl (opTo_storeN [.int .i64 15] rfl rfl rfl rfl size_in h.blk (by simp [prC]) (one_in _) ?_)
     intro w3 hs3 hk3 hb3
     refine au ?_
     exact rn_end Tryz.func264 (.inr (.inl ⟨rfl, rfl⟩)) ⟨rfl, bad (fun hc => by rw [Int.toNat_natCast, hx] at hc; exact hxn (Option.some.inj hc.2)) hs3 hk3 hb3⟩
theorem plist_ret (h : PVm R B w q fq p) (hl : p.1.length ≤ 400000) : Ret Tryz.prog 143 [.pointer (some ⟨q, 0, none⟩)] w fun r w' => RowL w' w.heap.size r p.1 ∧ Keep [] w w' := by
 obtain ⟨v, rfl, h⟩ := h
 obtain ⟨a, cap, rfl⟩ := h.row.form
 refine ret_of 8 Tryz.func143 rfl rfl (by simp) ?_
 refine lB h.blk ?_
 refine oC (cloneL_ret h.row.lies (by omega)) ?_
 rintro r w1 ⟨hr, hk⟩
 refine au ?_
 exact rn_ret Tryz.func143 (.inl ⟨_, rfl, rfl⟩) ⟨hr, hk⟩
theorem pcode_ret (h : PVm R B w q fq p) : Ret Tryz.prog 184 [.pointer (some ⟨q, 0, none⟩)] w fun r w' => r = .int .i64 (if p.2 then 15 else 0) ∧ w' = w := by
 obtain ⟨v, rfl, h⟩ := h
 refine ret_of 7 Tryz.func184 rfl rfl (by simp) ?_
 refine lB h.blk ?_
 refine au ?_
 exact rn_ret Tryz.func184 (.inl ⟨_, rfl, rfl⟩) ⟨rfl, rfl⟩
end
end
section
open Go.Proofs
abbrev tMa : Nat := 215
theorem neML : tMa ≠ tLg := by decide
theorem neMP : tMa ≠ tPr := by decide
def maC (m : Nat) (cv iv : Value) (q : Nat) (left : Int) (torn : Bool) : List Value := [.pointer (some ⟨m, 0, none⟩), cv, iv, .pointer (some ⟨q, 0, none⟩), .int .i64 left, .bool torn]
structure Mo where
 L : List Is
 inp : List Int
 m : Nat
 q : Nat
 pr : Pr
 left : Int
 torn : Bool
 gen : Int
def Mx.o (M : Mx) : Mo := ⟨M.L, M.inp, M.m, M.q, M.pr, M.left, M.torn, M.gen⟩
def fpV (x d s m : Nat) (wv : Value) (q : Nat) (pv iv : Value) : List Nat := x :: (fpM d s m wv ++ ((q :: obs pv) ++ obs iv))
theorem mem_fpV {x d s m q k : Nat} {wv pv iv : Value} : k ∈ fpV x d s m wv q pv iv ↔ k = x ∨ k = m ∨ k = s ∨ k ∈ fpD d wv ∨ k ∈ q :: obs pv ∨ k ∈ obs iv := by
 unfold fpV fpM
 simp only [List.mem_cons, List.mem_append, or_assoc]
structure Mv (R : Nat → Prop) (B : Nat) (w : World) (x : Nat) (O : Mo) (d s : Nat) (S W : List Int) (D : List Bool) (wv cv iv pv : Value) : Prop where
 st : St B w d s O.m S W D wv
 hs : B ≤ s
 gen : genS S = O.gen
 pr : Pv R B w O.q pv O.pr
 blk : Blk w x (maC O.m cv iv O.q O.left O.torn) tMa
 code : InsV R w cv O.L
 inp : RowL w B iv O.inp
 hx : B ≤ x
 apt : Apt pv iv
 nr : ∀ k ∈ fpV x d s O.m wv O.q pv iv, ¬ R k
def Vx (Y : Nat → List Int → Prop) (R : Nat → Prop) (B : Nat) (w : World) (x : Nat) (fp : List Nat) (O : Mo) (E : List Int → Prop) : Prop := ∃ d s S W D wv cv iv pv, fp = fpV x d s O.m wv O.q pv iv ∧ Mv R B w x O d s S W D wv cv iv pv ∧ E W ∧ Y d S
structure Ena (Z W : List Int) (m : Md) : Prop extends Enc W m where
 agr : ∀ j, 5 + m.cells.length ≤ j → W[j]? = Z[j]?
structure Enb (Z W : List Int) (m : Md) : Prop extends Enc W m where
 agb : ∀ j, 5 + m.cells.length ≤ j → (j < 53 ∨ 53 + m.stack.length ≤ j) → W[j]? = Z[j]?
theorem Ena.b {Z W : List Int} {m : Md} (h : Ena Z W m) : Enb Z W m := ⟨h.toEnc, fun j hj _ => h.agr j hj⟩
def Vm (Y : Nat → List Int → Prop) (Z : List Int) (R : Nat → Prop) (B : Nat) (w : World) (x : Nat) (fp : List Nat) (M : Mx) : Prop := Vx Y R B w x fp M.o fun W => Ena Z W M.md
def Vp (Y : Nat → List Int → Prop) (Z : List Int) (R : Nat → Prop) (B : Nat) (w : World) (x : Nat) (fp : List Nat) (M : Mx) : Prop := Vx Y R B w x fp M.o fun W => Enb Z W M.md
section
variable {Y : Nat → List Int → Prop} {Z : List Int} {R : Nat → Prop} {B : Nat} {w w' : World} {x d s : Nat} {fp fp2 : List Nat} {O : Mo} {S W : List Int} {D : List Bool} {wv cv iv pv : Value} {E E' : List Int → Prop}
theorem Mv.lt (h : Mv R B w x O d s S W D wv cv iv pv) : ∀ k ∈ fpV x d s O.m wv O.q pv iv, B ≤ k ∧ k < w.heap.size ∧ ¬ R k := fun k hk => by
 have hn := h.nr k hk
 refine ⟨?_, ?_, hn⟩
 ·rcases mem_fpV.1 hk with rfl | rfl | rfl | hk | hk | hk
  ·exact h.hx
  ·exact h.st.hm
  ·exact h.hs
  ·exact (h.st.dsk.lt k hk).1
  ·exact (h.pr.lt k hk).1
  ·exact (h.inp.lt k hk).1
 ·rcases mem_fpV.1 hk with rfl | rfl | rfl | hk | hk | hk
  ·exact h.blk.lt
  ·exact h.st.mem.blk.lt
  ·exact Blk.lt h.st.sto
  ·exact (h.st.dsk.lt k hk).2
  ·exact (h.pr.lt k hk).2.1
  ·exact (h.inp.lt k hk).2
theorem Mv.keep (h : Mv R B w x O d s S W D wv cv iv pv) (hk : Keep fp2 w w') (hn : ∀ k ∈ fp2, ¬ R k ∧ k ∉ fpV x d s O.m wv O.q pv iv) : Mv R B w' x O d s S W D wv cv iv pv := by
 have hx : ∀ k, k ∈ fpV x d s O.m wv O.q pv iv → k ∉ fp2 := fun k hk hm => (hn k hm).2 hk
 refine ⟨⟨h.st.mem.keep hk (hx _ (mem_fpV.2 (.inr (.inl rfl)))), hk.blk h.st.sto (hx _ (mem_fpV.2 (.inr (.inr (.inl rfl))))), h.st.dsk.keep hk fun k hk => hx _ (mem_fpV.2 (.inr (.inr (.inr (.inl hk))))), h.st.good, h.st.tied, h.st.hm⟩, h.hs, h.gen,
  h.pr.keep hk fun k hm hq => (hn k hm).2 (mem_fpV.2 (.inr (.inr (.inr (.inr (.inl hq)))))), hk.blk h.blk (hx _ (mem_fpV.2 (.inl rfl))), h.code.keep hk fun c hR => ⟨h.pr.ro c hR, fun hm => (hn c hm).1 hR⟩,
  h.inp.keep hk fun k hq => hx _ (mem_fpV.2 (.inr (.inr (.inr (.inr (.inr hq)))))), h.hx, h.apt, h.nr⟩
theorem Vx.lt (h : Vx Y R B w x fp O E) : ∀ k ∈ fp, B ≤ k ∧ k < w.heap.size ∧ ¬ R k := by
 obtain ⟨d, s, S, W, D, wv, cv, iv, pv, rfl, h, _⟩ := h
 exact h.lt
theorem Vx.in (h : Vx Y R B w x fp O E) : x ∈ fp := by
 obtain ⟨d, s, S, W, D, wv, cv, iv, pv, rfl, h, _⟩ := h
 exact mem_fpV.2 (.inl rfl)
theorem Vx.mIn (h : Vx Y R B w x fp O E) : O.m ∈ fp := by
 obtain ⟨d, s, S, W, D, wv, cv, iv, pv, rfl, h, _⟩ := h
 exact mem_fpV.2 (.inr (.inl rfl))
theorem Vx.keep (h : Vx Y R B w x fp O E) (hk : Keep fp2 w w') (hn : ∀ k ∈ fp2, ¬ R k ∧ k ∉ fp) : Vx Y R B w' x fp O E := by
 obtain ⟨d, s, S, W, D, wv, cv, iv, pv, rfl, h, he⟩ := h
 exact ⟨d, s, S, W, D, wv, cv, iv, pv, rfl, h.keep hk hn, he⟩
theorem Vx.keep0 (h : Vx Y R B w x fp O E) (hk : Keep [] w w') : Vx Y R B w' x fp O E := h.keep hk fun k hk => by cases hk
theorem Vx.mono (h : Vx Y R B w x fp O E) (he : ∀ W, W.length = 112 → E W → E' W) : Vx Y R B w x fp O E' := by
 obtain ⟨d, s, S, W, D, wv, cv, iv, pv, rfl, h, e⟩ := h
 exact ⟨d, s, S, W, D, wv, cv, iv, pv, rfl, h, he W h.st.mem.wl e.1, e.2⟩
theorem Vx.ptr (h : Vx Y R B w x fp O E) : w.cell? ⟨x, 0, none⟩ = some (.pointer (some ⟨O.m, 0, none⟩)) := by
 obtain ⟨d, s, S, W, D, wv, cv, iv, pv, rfl, h, _⟩ := h
 exact h.blk.cell rfl
theorem Vx.prt (h : Vx Y R B w x fp O E) : w.cell? ⟨x, 3, none⟩ = some (.pointer (some ⟨O.q, 0, none⟩)) := by
 obtain ⟨d, s, S, W, D, wv, cv, iv, pv, rfl, h, _⟩ := h
 exact h.blk.cell rfl
theorem Vx.bk (h : Vx Y R B w x fp O E) : ∃ cv iv, Blk w x (maC O.m cv iv O.q O.left O.torn) tMa ∧ InsV R w cv O.L ∧ RowL w B iv O.inp ∧ ∀ k, R k → k < w.heap.size := by
 obtain ⟨d, s, S, W, D, wv, cv, iv, pv, rfl, h, _⟩ := h
 exact ⟨cv, iv, h.blk, h.code, h.inp, h.pr.ro⟩
theorem Vx.load (h : Vx Y R B w x fp O E) (i : Int) (v : Int) (he : ∀ W, W.length = 112 → E W → loadW W i = v) : Ret Tryz.prog 183 [.pointer (some ⟨O.m, 0, none⟩), .int .i64 i] w fun r w' => r = .int .i64 v ∧ w' = w := by
 obtain ⟨d, s, S, W, D, wv, cv, iv, pv, rfl, h, e⟩ := h
 rw [← he W h.st.mem.wl e.1]
 exact load_ret h.st.mem i
theorem Vx.put (h : Vx Y R B w x fp O E) (i v : Int) (he : ∀ W, W.length = 112 → E W → E' (putW W i v)) : Ret Tryz.prog 210 [.pointer (some ⟨O.m, 0, none⟩), .int .i64 i, .int .i64 v] w fun r w' => r = .bool (hasM i) ∧ Vx Y R B w' x fp O E' ∧ Keep [O.m] w w' := by
 obtain ⟨d, s, S, W, D, wv, cv, iv, pv, rfl, h, e⟩ := h
 refine (puts_ret h.st i v).mono ?_
 rintro r w1 ⟨rfl, h1, hk1⟩
 refine ⟨rfl, ⟨d, s, S, _, _, wv, cv, iv, pv, rfl, ⟨h1, h.hs, h.gen, ?_, ?_, ?_, ?_, h.hx, h.apt, h.nr⟩, he W h.st.mem.wl e.1, e.2⟩, hk1⟩
 ·refine h.pr.keep hk1 fun k hm hq => ?_
  rw [List.mem_singleton.1 hm] at hq
  rcases List.mem_cons.1 hq with hq | hq
  ·exact Blk.ne h.st.mem.blk h.pr.blk (by decide) hq
  ·exact h.pr.row.ne h.st.mem.blk (by decide) _ hq (by simp)
 ·exact hk1.blk h.blk (by simp; exact Blk.ne h.blk h.st.mem.blk (by decide))
 ·refine h.code.keep hk1 fun c hR => ⟨h.pr.ro c hR, fun hm => ?_⟩
  rw [List.mem_singleton.1 hm] at hR
  exact h.nr _ (mem_fpV.2 (.inr (.inl rfl))) hR
 ·exact h.inp.keep hk1 (h.inp.ne h.st.mem.blk (by decide))
end
theorem loadW_at {W : List Int} {i : Nat} {v : Int} (h : W[i]? = some v) (hi : i < 112) : loadW W ((i : Nat) : Int) = v := by
 have hm : hasM ((i : Nat) : Int) = true := by simp [hasM]; omega
 unfold loadW
 rw [hm, if_pos rfl, Int.toNat_natCast, List.getD_eq_getElem?_getD, h]
 rfl
theorem putW_at (W : List Int) {i : Nat} (v : Int) (hi : i < 112) : putW W ((i : Nat) : Int) v = W.set i v := by
 have hm : hasM ((i : Nat) : Int) = true := by simp [hasM]; omega
 unfold putW
 rw [hm, if_pos rfl, Int.toNat_natCast]
theorem set_at {W : List Int} (hl : W.length = 112) {i : Nat} (hi : i < 112) (v : Int) : (W.set i v)[i]? = some v := by
 rw [List.getElem?_set, if_pos rfl, if_pos (by omega)]
theorem set_off {W : List Int} {i j : Nat} (h : i ≠ j) (v : Int) : (W.set i v)[j]? = W[j]? := by rw [List.getElem?_set, if_neg h]
section
variable {W : List Int} {m : Md}
theorem enc_next (h : Enc W m) (hl : W.length = 112) (n : Nat) : Enc (W.set 0 (n : Int)) { m with next := n } :=
 ⟨set_at hl (by decide) _, (set_off (by decide) _).trans h.many, (set_off (by decide) _).trans h.read, (set_off (by decide) _).trans h.out, (set_off (by decide) _).trans h.state, fun i x hi => (set_off (by omega) _).trans (h.cells i x hi), fun i x hi => (set_off (by omega) _).trans (h.stack i x hi)⟩
theorem enc_many (h : Enc W m) (hl : W.length = 112) {s : List Int} {k : Int} (hk : k = (s.length : Nat)) (hs : ∀ i x, s[i]? = some x → W[53 + i]? = some x) : Enc (W.set 1 k) { m with stack := s } :=
 ⟨(set_off (by decide) _).trans h.next, by rw [set_at hl (by decide), hk], (set_off (by decide) _).trans h.read, (set_off (by decide) _).trans h.out, (set_off (by decide) _).trans h.state, fun i x hi => (set_off (by omega) _).trans (h.cells i x hi), fun i x hi => (set_off (by omega) _).trans (hs i x hi)⟩
theorem enc_read (h : Enc W m) (hl : W.length = 112) {k : Int} {n : Nat} (hk : k = (n : Nat)) : Enc (W.set 2 k) { m with read := n } :=
 ⟨(set_off (by decide) _).trans h.next, (set_off (by decide) _).trans h.many, by rw [set_at hl (by decide), hk], (set_off (by decide) _).trans h.out, (set_off (by decide) _).trans h.state, fun i x hi => (set_off (by omega) _).trans (h.cells i x hi), fun i x hi => (set_off (by omega) _).trans (h.stack i x hi)⟩
theorem enc_out (h : Enc W m) (hl : W.length = 112) {k : Int} {n : Nat} (hk : k = (n : Nat)) : Enc (W.set 3 k) { m with out := n } :=
 ⟨(set_off (by decide) _).trans h.next, (set_off (by decide) _).trans h.many, (set_off (by decide) _).trans h.read, by rw [set_at hl (by decide), hk], (set_off (by decide) _).trans h.state, fun i x hi => (set_off (by omega) _).trans (h.cells i x hi), fun i x hi => (set_off (by omega) _).trans (h.stack i x hi)⟩
theorem enc_state (h : Enc W m) (hl : W.length = 112) {k : Int} {n : Nat} (hk : k = (n : Nat)) : Enc (W.set 4 k) { m with state := n } :=
 ⟨(set_off (by decide) _).trans h.next, (set_off (by decide) _).trans h.many, (set_off (by decide) _).trans h.read, (set_off (by decide) _).trans h.out, by rw [set_at hl (by decide), hk], fun i x hi => (set_off (by omega) _).trans (h.cells i x hi), fun i x hi => (set_off (by omega) _).trans (h.stack i x hi)⟩
theorem enc_cell (h : Enc W m) (hl : W.length = 112) (hc : m.cells.length ≤ 48) {a : Nat} (ha : a < m.cells.length) (n : Int) : Enc (W.set (5 + a) n) { m with cells := m.cells.set a n } := by
 refine ⟨(set_off (by omega) _).trans h.next, (set_off (by omega) _).trans h.many, (set_off (by omega) _).trans h.read, (set_off (by omega) _).trans h.out, (set_off (by omega) _).trans h.state, fun i x hi => ?_, fun i x hi => (set_off (by omega) _).trans (h.stack i x hi)⟩
 simp only [List.getElem?_set] at hi
 by_cases e : a = i
 ·subst e
  rw [if_pos rfl, if_pos ha] at hi
  cases hi
  exact set_at hl (by omega) _
 ·rw [if_neg e] at hi
  exact (set_off (by omega) _).trans (h.cells i x hi)
theorem enc_top (h : Enc W m) (hc : m.cells.length ≤ 48) (n : Int) : Enc (W.set (53 + m.stack.length) n) m := by
 refine ⟨(set_off (by omega) _).trans h.next, (set_off (by omega) _).trans h.many, (set_off (by omega) _).trans h.read, (set_off (by omega) _).trans h.out, (set_off (by omega) _).trans h.state, fun i x hi => ?_, fun i x hi => ?_⟩
 ·have := (List.getElem?_eq_some_iff.1 hi).1
  exact (set_off (by omega) _).trans (h.cells i x hi)
 ·have := (List.getElem?_eq_some_iff.1 hi).1
  exact (set_off (by omega) _).trans (h.stack i x hi)
end
section
variable {Z W : List Int} {m : Md}
theorem ena_next (h : Ena Z W m) (hl : W.length = 112) (n : Nat) : Ena Z (W.set 0 (n : Int)) { m with next := n } := ⟨enc_next h.toEnc hl n, fun j hj => (set_off (by omega) _).trans (h.agr j hj)⟩
theorem ena_read (h : Ena Z W m) (hl : W.length = 112) {k : Int} {n : Nat} (hk : k = (n : Nat)) : Ena Z (W.set 2 k) { m with read := n } := ⟨enc_read h.toEnc hl hk, fun j hj => (set_off (by omega) _).trans (h.agr j hj)⟩
theorem ena_out (h : Ena Z W m) (hl : W.length = 112) {k : Int} {n : Nat} (hk : k = (n : Nat)) : Ena Z (W.set 3 k) { m with out := n } := ⟨enc_out h.toEnc hl hk, fun j hj => (set_off (by omega) _).trans (h.agr j hj)⟩
theorem ena_state (h : Ena Z W m) (hl : W.length = 112) {k : Int} {n : Nat} (hk : k = (n : Nat)) : Ena Z (W.set 4 k) { m with state := n } := ⟨enc_state h.toEnc hl hk, fun j hj => (set_off (by omega) _).trans (h.agr j hj)⟩
theorem ena_cell (h : Ena Z W m) (hl : W.length = 112) (hc : m.cells.length ≤ 48) {a : Nat} (ha : a < m.cells.length) (n : Int) : Ena Z (W.set (5 + a) n) { m with cells := m.cells.set a n } :=
 ⟨enc_cell h.toEnc hl hc ha n, fun j hj => by
  have hj : 5 + (m.cells.set a n).length ≤ j := hj
  rw [List.length_set] at hj
  exact (set_off (by omega) _).trans (h.agr j hj)⟩
end
theorem zero_mis : ((Tryz.prog.info? 252).bind (·.zero)).map (·.cells) = some (iC (0, 0, 0, 0)).toArray := by kernel_rfl
theorem size_mis : sizeOk Tryz.prog 252 4 = true := by kernel_rfl
section
variable {Y : Nat → List Int → Prop} {Z : List Int} {R : Nat → Prop} {B : Nat} {w : World} {x : Nat} {fp : List Nat} {M : Mx}
theorem Vm.b (h : Vm Y Z R B w x fp M) : Vp Y Z R B w x fp M := Vx.mono h fun _ _ e => e.b
theorem goes_ret (h : Vm Y Z R B w x fp M) : Ret Tryz.prog 208 [.pointer (some ⟨x, 0, none⟩)] w fun r w' => r = .bool (decide (M.md.state = 0)) ∧ w' = w := by
 refine ret_of 9 Tryz.func208 rfl rfl (by simp) ?_
 refine au ?_
 refine pl_val _ rfl rfl (val_load1 hT rfl rfl rfl (h.ptr)) ?_
 refine oC (h.load 4 (M.md.state : Nat) fun W hl e => loadW_at e.state (by decide)) ?_
 rintro r w1 ⟨rfl, hww⟩
 rw [hww]
 by_cases hs : M.md.state = 0
 ·refine ye ?_
  refine au ?_
  exact rn_ret Tryz.func208 (.inl ⟨_, rfl, rfl⟩) ⟨by simp [hs], rfl⟩
 ·refine nay ?_
  refine au ?_
  exact rn_ret Tryz.func208 (.inl ⟨_, rfl, rfl⟩) ⟨by simp [hs], rfl⟩
theorem mcnext_ret (h : Vm Y Z R B w x fp M) {i : Is} (hi : M.L[M.md.next]? = some i) : Ret Tryz.prog 209 [.pointer (some ⟨x, 0, none⟩)] w fun r w' => r = .agg (iC i).toArray ∧ Keep [] w w' := by
 have hn : M.md.next < M.L.length := (List.getElem?_eq_some_iff.1 hi).1
 refine ret_of 28 Tryz.func209 rfl rfl (by simp) ?_
 refine au ?_
 refine pl_op rfl rfl (opTo_allocN _ rfl zero_mis ?_)
 intro w1 x1 hx1 hs1 hk1 hb1
 have h1 := h.keep0 hk1
 obtain ⟨cv, iv, hbk, hcd, _, hro⟩ := h1.bk
 obtain ⟨cb, cq, ccap, rfl, hcF, hcr⟩ := hcd.at hi
 refine au ?_
 refine pl_val _ rfl rfl (val_load1 hT rfl rfl rfl (h1.ptr)) ?_
 refine oC (h1.load 0 (M.md.next : Nat) fun W hl e => loadW_at e.next (by decide)) ?_
 rintro r w1' ⟨rfl, hww⟩
 rw [hww]
 refine nay ?_
 refine lB hbk ?_
 refine au ?_
 have hn' : M.md.next < M.o.L.length := hn
 refine nay ?_
 refine lB hbk ?_
 refine au ?_
 refine pl_val _ rfl rfl (val_index M.md.next hT rfl rfl rfl rfl rfl hn' w1) ?_
 refine pl_val (.agg (iC i).toArray) rfl rfl (val_load (iC i) hT rfl rfl rfl hcr) ?_
 refine pl_op rfl rfl (opTo_storeN (iC i) rfl rfl rfl rfl size_mis hb1 (by simp [iC]) (iC_one _) ?_)
 intro w2 hs2 hk2 hb2
 rw [splice_whole (by rfl)] at hb2
 refine au ?_
 exact rn_ret Tryz.func209 (.inr (.inr (.inl ⟨_, _, _, rfl, rfl, blk_loadVar hT hb2 rfl⟩))) ⟨rfl, hk1.trB hk2 (by omega)⟩
theorem mpush_ret (h : Vm Y Z R B w x fp M) (hs : M.md.stack.length ≤ 58) (hc : M.md.cells.length ≤ 48) (n : Int) : Ret Tryz.prog 237 [.pointer (some ⟨x, 0, none⟩), .int .i64 n] w fun r w' => r = .tuple #[] ∧ Vp Y Z R B w' x fp { M with md := { M.md with stack := M.md.stack ++ [n] } } ∧ Keep [M.m] w w' := by
 refine ret_of 25 Tryz.func237 rfl rfl (by simp) ?_
 refine au ?_
 refine pl_val _ rfl rfl (val_load1 hT rfl rfl rfl (h.ptr)) ?_
 refine oC (h.load 1 (M.md.stack.length : Nat) fun W hl e => loadW_at e.many (by decide)) ?_
 rintro r w1 ⟨rfl, hww⟩
 rw [hww]
 refine au ?_
 refine pl_val _ rfl rfl (val_load1 hT rfl rfl rfl (h.ptr)) ?_
 refine nM ((53 + M.md.stack.length : Nat) : Int) ?_
 refine au ?_
 refine pl_op rfl rfl (opTo_call (fst := []) (cap := []) rfl rfl rfl rfl (by decide +kernel) ((h.put (E' := fun W => Enc W M.md ∧ W[53 + M.md.stack.length]? = some n ∧ ∀ j, 5 + M.md.cells.length ≤ j → j ≠ 53 + M.md.stack.length → W[j]? = Z[j]?) ((53 + M.md.stack.length : Nat) : Int) n fun W hl e => by
  rw [putW_at W n (by omega)]
  exact ⟨enc_top e.toEnc hc n, set_at hl (by omega) n, fun j hj hne => (set_off (by omega) _).trans (e.agr j hj)⟩).mono ?_))
 rintro r w2 ⟨rfl, h2, hk2⟩
 refine au ?_
 refine pl_val _ rfl rfl (val_load1 hT rfl rfl rfl (h2.ptr)) ?_
 refine nM ((M.md.stack.length + 1 : Nat) : Int) ?_
 refine pl_op rfl rfl (opTo_call (fst := []) (cap := []) rfl rfl rfl rfl (by decide +kernel) ((h2.put (E' := fun W => Enb Z W { M.md with stack := M.md.stack ++ [n] }) 1 ((M.md.stack.length + 1 : Nat) : Int) fun W hl e => by
  rw [show (1 : Int) = ((1 : Nat) : Int) from rfl, putW_at W _ (by decide)]
  refine ⟨enc_many e.1 hl (by simp) fun i v hi => ?_, fun j hj hf => (set_off (by omega) _).trans (e.2.2 j hj (by simp only [List.length_append, List.length_cons, List.length_nil] at hf; omega))⟩
  rw [List.getElem?_append] at hi
  split at hi
  ·exact e.1.stack i v hi
  ·have hj := (List.getElem?_eq_some_iff.1 hi).1
   simp only [List.length_cons, List.length_nil] at hj
   rw [show i - M.md.stack.length = 0 by omega] at hi
   rw [show i = M.md.stack.length by omega, e.2.1]
   exact hi).mono ?_))
 rintro r w3 ⟨rfl, h3, hk3⟩
 refine au ?_
 exact rn_end Tryz.func237 (.inr (.inl ⟨rfl, rfl⟩)) ⟨rfl, h3, hk2.tr hk3⟩
theorem mpop_ret (h : Vm Y Z R B w x fp M) (h0 : 1 ≤ M.md.stack.length) (hs : M.md.stack.length ≤ 59) : Ret Tryz.prog 239 [.pointer (some ⟨x, 0, none⟩)] w fun r w' => r = .int .i64 (topS M.md.stack) ∧ Vm Y Z R B w' x fp { M with md := { M.md with stack := M.md.stack.dropLast } } ∧ Keep [M.m] w w' := by
 obtain ⟨k, hk⟩ : ∃ k, M.md.stack.length = k + 1 := ⟨M.md.stack.length - 1, by omega⟩
 refine ret_of 23 Tryz.func239 rfl rfl (by simp) ?_
 refine au ?_
 refine pl_val _ rfl rfl (val_load1 hT rfl rfl rfl (h.ptr)) ?_
 refine oC (h.load 1 (M.md.stack.length : Nat) fun W hl e => loadW_at e.many (by decide)) ?_
 rintro r w1 ⟨rfl, hww⟩
 rw [hww]
 refine nM ((k : Nat) : Int) ?_
 refine au ?_
 refine pl_val _ rfl rfl (val_load1 hT rfl rfl rfl (h.ptr)) ?_
 refine au ?_
 refine pl_op rfl rfl (opTo_call (fst := []) (cap := []) rfl rfl rfl rfl (by decide +kernel) ((h.put (E' := fun W => Ena Z W { M.md with stack := M.md.stack.dropLast } ∧ W[53 + k]? = some (topS M.md.stack)) 1 ((k : Nat) : Int) fun W hl e => by
  rw [show (1 : Int) = ((1 : Nat) : Int) from rfl, putW_at W _ (by decide)]
  refine ⟨⟨enc_many e.toEnc hl (by simp; omega) fun i v hi => ?_, fun j hj => (set_off (by omega) _).trans (e.agr j hj)⟩, (set_off (by omega) _).trans (e.stack k _ (topS_at hk))⟩
  rw [List.getElem?_dropLast] at hi
  split at hi
  ·exact e.stack i v hi
  ·cases hi).mono ?_))
 rintro r w2 ⟨rfl, h2, hk2⟩
 refine au ?_
 refine pl_val _ rfl rfl (val_load1 hT rfl rfl rfl (h2.ptr)) ?_
 refine nM ((53 + k : Nat) : Int) ?_
 refine oC (h2.load ((53 + k : Nat) : Int) (topS M.md.stack) fun W hl e => loadW_at e.2 (by omega)) ?_
 rintro r w3 ⟨rfl, hww⟩
 rw [hww]
 refine au ?_
 exact rn_ret Tryz.func239 (.inl ⟨_, rfl, rfl⟩) ⟨rfl, h2.mono fun W _ e => e.1, hk2⟩
theorem mcell_at (h : Vm Y Z R B w x fp M) (hc : M.md.cells.length ≤ 48) {a : Nat} (ha : a < M.md.cells.length) : Ret Tryz.prog 144 [.pointer (some ⟨x, 0, none⟩), .int .i64 (a : Nat)] w fun r w' => r = .int .i64 (cellAt M.md.cells ((a : Nat) : Int)) ∧ w' = w := by
 refine ret_of 12 Tryz.func144 rfl rfl (by simp) ?_
 refine au ?_
 refine pl_val _ rfl rfl (val_load1 hT rfl rfl rfl (h.ptr)) ?_
 refine nM ((5 + a : Nat) : Int) ?_
 refine oC (h.load ((5 + a : Nat) : Int) (cellAt M.md.cells ((a : Nat) : Int)) fun W hl e => loadW_at (e.cells a _ (cellAt_nat ha)) (by omega)) ?_
 rintro r w1 ⟨rfl, hww⟩
 rw [hww]
 refine au ?_
 exact rn_ret Tryz.func144 (.inl ⟨_, rfl, rfl⟩) ⟨rfl, rfl⟩
theorem msetCell_ret (h : Vm Y Z R B w x fp M) (hc : M.md.cells.length ≤ 48) {a : Nat} (ha : a < M.md.cells.length) (n : Int) : Ret Tryz.prog 241 [.pointer (some ⟨x, 0, none⟩), .int .i64 (a : Nat), .int .i64 n] w fun r w' => r = .tuple #[] ∧ Vm Y Z R B w' x fp { M with md := { M.md with cells := M.md.cells.set a n } } ∧ Keep [M.m] w w' := by
 refine ret_of 14 Tryz.func241 rfl rfl (by simp) ?_
 refine au ?_
 refine pl_val _ rfl rfl (val_load1 hT rfl rfl rfl (h.ptr)) ?_
 refine nM ((5 + a : Nat) : Int) ?_
 refine au ?_
 refine pl_op rfl rfl (opTo_call (fst := []) (cap := []) rfl rfl rfl rfl (by decide +kernel) ((h.put (E' := fun W => Ena Z W { M.md with cells := M.md.cells.set a n }) ((5 + a : Nat) : Int) n fun W hl e => by
  rw [putW_at W n (by omega)]
  exact ena_cell e hl hc ha n).mono ?_))
 rintro r w2 ⟨rfl, h2, hk2⟩
 refine au ?_
 exact rn_end Tryz.func241 (.inr (.inl ⟨rfl, rfl⟩)) ⟨rfl, h2, hk2⟩
theorem mjump_ret (h : Vm Y Z R B w x fp M) (t : Nat) : Ret Tryz.prog 245 [.pointer (some ⟨x, 0, none⟩), .int .i64 (t : Nat)] w fun r w' => r = .tuple #[] ∧ Vm Y Z R B w' x fp { M with md := { M.md with next := t } } ∧ Keep [M.m] w w' := by
 refine ret_of 10 Tryz.func245 rfl rfl (by simp) ?_
 refine au ?_
 refine pl_val _ rfl rfl (val_load1 hT rfl rfl rfl (h.ptr)) ?_
 refine au ?_
 refine pl_op rfl rfl (opTo_call (fst := []) (cap := []) rfl rfl rfl rfl (by decide +kernel) ((h.put (E' := fun W => Ena Z W { M.md with next := t }) 0 (t : Nat) fun W hl e => by
  rw [show (0 : Int) = ((0 : Nat) : Int) from rfl, putW_at W _ (by decide)]
  exact ena_next e hl t).mono ?_))
 rintro r w2 ⟨rfl, h2, hk2⟩
 refine au ?_
 exact rn_end Tryz.func245 (.inr (.inl ⟨rfl, rfl⟩)) ⟨rfl, h2, hk2⟩
theorem mstop_ret (h : Vm Y Z R B w x fp M) (t : Nat) (ht : t ≤ 1000) : Ret Tryz.prog 262 [.pointer (some ⟨x, 0, none⟩), .int .i64 (t : Nat)] w fun r w' => r = .tuple #[] ∧ Vm Y Z R B w' x fp { M with md := { M.md with state := t + 2 } } ∧ Keep [M.m] w w' := by
 refine ret_of 11 Tryz.func262 rfl rfl (by simp) ?_
 refine au ?_
 refine pl_val _ rfl rfl (val_load1 hT rfl rfl rfl (h.ptr)) ?_
 refine nM ((t + 2 : Nat) : Int) ?_
 refine pl_op rfl rfl (opTo_call (fst := []) (cap := []) rfl rfl rfl rfl (by decide +kernel) ((h.put (E' := fun W => Ena Z W { M.md with state := t + 2 }) 4 ((t + 2 : Nat) : Int) fun W hl e => by
  rw [show (4 : Int) = ((4 : Nat) : Int) from rfl, putW_at W _ (by decide)]
  exact ena_state e hl rfl).mono ?_))
 rintro r w2 ⟨rfl, h2, hk2⟩
 refine au ?_
 exact rn_end Tryz.func262 (.inr (.inl ⟨rfl, rfl⟩)) ⟨rfl, h2, hk2⟩
end
end
section
open Go.Proofs
theorem mtruth_ret (b : Bool) (w : World) : Ret Tryz.prog 263 [.bool b] w fun r w' => r = .int .i64 (bitI b) ∧ w' = w := by
 refine ret_of 4 Tryz.func263 rfl rfl (by simp) ?_
 cases b
 ·refine au ?_
  exact rn_ret Tryz.func263 (.inl ⟨_, rfl, rfl⟩) ⟨rfl, rfl⟩
 ·refine au ?_
  exact rn_ret Tryz.func263 (.inl ⟨_, rfl, rfl⟩) ⟨rfl, rfl⟩
theorem mreckon_ret (op a b : Int) (hop : 4 ≤ op ∧ op ≤ 8) (w : World) : Ret Tryz.prog 240 [.int .i64 op, .int .i64 a, .int .i64 b] w fun r w' => r = .int .i64 (ariI op a b) ∧ w' = w := by
 have hc : op = 4 ∨ op = 5 ∨ op = 6 ∨ op = 7 ∨ op = 8 := by omega
 refine ret_of 33 Tryz.func240 rfl rfl (by simp) ?_
 rcases hc with rfl | rfl | rfl | rfl | rfl
 ·have he : ariI 4 a b = IntKind.i64.wrap (a + b) := if_pos rfl
  rw [he]
  generalize hz : IntKind.i64.wrap (a + b) = z
  refine aub ?_
  refine pl_val (.int .i64 z) rfl rfl (val_int .i64 a b _ rfl rfl rfl (by rw [← hz]; simp only [intOp]) w) ?_
  refine au ?_
  exact rn_ret Tryz.func240 (.inl ⟨_, rfl, rfl⟩) ⟨rfl, rfl⟩
 ·have he : ariI 5 a b = IntKind.i64.wrap (a - b) := by unfold ariI; rw [if_neg (by decide), if_pos rfl]
  rw [he]
  generalize hz : IntKind.i64.wrap (a - b) = z
  refine aub ?_
  refine pl_val (.int .i64 z) rfl rfl (val_int .i64 a b _ rfl rfl rfl (by rw [← hz]; simp only [intOp]) w) ?_
  refine au ?_
  exact rn_ret Tryz.func240 (.inl ⟨_, rfl, rfl⟩) ⟨rfl, rfl⟩
 ·have he : ariI 6 a b = IntKind.i64.wrap (a * b) := by unfold ariI; rw [if_neg (by decide), if_neg (by decide), if_pos rfl]
  rw [he]
  generalize hz : IntKind.i64.wrap (a * b) = z
  refine aub ?_
  refine pl_val (.int .i64 z) rfl rfl (val_int .i64 a b _ rfl rfl rfl (by rw [← hz]; simp only [intOp]) w) ?_
  refine au ?_
  exact rn_ret Tryz.func240 (.inl ⟨_, rfl, rfl⟩) ⟨rfl, rfl⟩
 ·refine aub ?_
  have he : ariI 7 a b = bitI (decide (a < b)) := by unfold ariI; rw [if_neg (by decide), if_neg (by decide), if_neg (by decide), if_pos rfl]
  by_cases hl : a < b
  ·refine ye ?_
   refine oC (mtruth_ret true w) ?_
   rintro r w1 ⟨rfl, hww⟩
   rw [hww]
   refine au ?_
   exact rn_ret Tryz.func240 (.inl ⟨_, rfl, rfl⟩) ⟨by rw [he]; simp [hl], rfl⟩
  ·refine nay ?_
   refine oC (mtruth_ret false w) ?_
   rintro r w1 ⟨rfl, hww⟩
   rw [hww]
   refine au ?_
   exact rn_ret Tryz.func240 (.inl ⟨_, rfl, rfl⟩) ⟨by rw [he]; simp [hl], rfl⟩
 ·refine aub ?_
  have he : ariI 8 a b = bitI (a == b) := by unfold ariI; rw [if_neg (by decide), if_neg (by decide), if_neg (by decide), if_neg (by decide)]
  by_cases hl : a = b
  ·refine ye ?_
   refine oC (mtruth_ret true w) ?_
   rintro r w1 ⟨rfl, hww⟩
   rw [hww]
   refine au ?_
   exact rn_ret Tryz.func240 (.inl ⟨_, rfl, rfl⟩) ⟨by rw [he, hl, beq_self_eq_true], rfl⟩
  ·refine nay ?_
   refine oC (mtruth_ret false w) ?_
   rintro r w1 ⟨rfl, hww⟩
   rw [hww]
   refine au ?_
   exact rn_ret Tryz.func240 (.inl ⟨_, rfl, rfl⟩) ⟨by rw [he, beq_eq_false_iff_ne.2 hl], rfl⟩
def sayB (k n : Int) : Bool := decide (0 ≤ n ∧ n < k)
theorem msays_ret (i : Is) (n : Int) (w : World) : Ret Tryz.prog 261 [.agg (iC i).toArray, .int .i64 n] w fun r w' => r = .bool (sayB i.2.2.1 n) ∧ Keep [] w w' := by
 refine ret_of 13 Tryz.func261 rfl rfl (by simp) ?_
 refine au ?_
 refine pl_op rfl rfl (opTo_boxN (iC i) rfl rfl rfl ?_)
 intro w1 x1 hx1 hs1 hk1 hb1
 refine au ?_
 by_cases h0 : 0 ≤ n
 ·refine ye ?_
  refine lB hb1 ?_
  by_cases h1 : n < i.2.2.1
  ·refine ye ?_
   refine au ?_
   exact rn_ret Tryz.func261 (.inl ⟨_, rfl, rfl⟩) ⟨by simp [sayB, h0, h1], hk1⟩
  ·refine nay ?_
   refine au ?_
   exact rn_ret Tryz.func261 (.inl ⟨_, rfl, rfl⟩) ⟨by simp [sayB, h1], hk1⟩
 ·refine nay ?_
  refine au ?_
  exact rn_ret Tryz.func261 (.inl ⟨_, rfl, rfl⟩) ⟨by simp [sayB, h0], hk1⟩
section
variable {Y : Nat → List Int → Prop} {Z : List Int} {R : Nat → Prop} {B : Nat} {w : World} {x : Nat} {fp : List Nat} {M : Mx}
theorem mgetCell_ret (h : Vm Y Z R B w x fp M) (i : Is) (h1 : 1 ≤ M.md.stack.length) (hs : M.md.stack.length ≤ 24) (hc : M.md.cells.length ≤ 48) (hA : 0 ≤ i.2.1) (hAB : i.2.1 + i.2.2.1 ≤ (M.md.cells.length : Int)) :
  Ret Tryz.prog 238 [.pointer (some ⟨x, 0, none⟩), .agg (iC i).toArray] w fun r w' => r = .tuple #[] ∧ Keep [M.m] w w' ∧
   Vp Y Z R B w' x fp { M with md := if 0 ≤ topS M.md.stack ∧ topS M.md.stack < i.2.2.1 then { M.md with stack := M.md.stack.dropLast ++ [cellAt M.md.cells (i.2.1 + topS M.md.stack)] } else { M.md with stack := M.md.stack.dropLast, state := 13 } } := by
 refine ret_of 21 Tryz.func238 rfl rfl (by simp) ?_
 refine au ?_
 refine pl_op rfl rfl (opTo_boxN (iC i) rfl rfl rfl ?_)
 intro w1 x1 hx1 hs1 hk1 hb1
 have hml := (h.lt _ h.mIn).2.1
 have hmx : x1 ∉ [M.m] := by
  intro hm
  have hm : x1 = M.o.m := List.mem_singleton.1 hm
  omega
 refine oC (mpop_ret (Vx.keep0 h hk1) h1 (by omega)) ?_
 rintro r w2 ⟨rfl, h2, hk2⟩
 have hb2 := hk2.blk hb1 hmx
 refine au ?_
 refine pl_val (.agg (iC i).toArray) rfl rfl (val_load (iC i) hT rfl rfl rfl (hb2.range (by rfl))) ?_
 refine oC (msays_ret i (topS M.md.stack) w2) ?_
 rintro r w3 ⟨rfl, hk3⟩
 have h3 := Vx.keep0 h2 hk3
 have hb3 := hk3.blk hb2 (by simp)
 have hk13 : Keep [M.m] w1 w3 := hk2.tr0 hk3
 by_cases hc0 : 0 ≤ topS M.md.stack ∧ topS M.md.stack < i.2.2.1
 ·rw [if_pos hc0]
  rw [show sayB i.2.2.1 (topS M.md.stack) = true by simp [sayB, hc0]]
  obtain ⟨a, ha⟩ : ∃ a : Nat, i.2.1 + topS M.md.stack = (a : Nat) := ⟨(i.2.1 + topS M.md.stack).toNat, by omega⟩
  refine lB hb3 ?_
  refine nM ((a : Nat) : Int) ?_
  refine oC (mcell_at h3 hc (a := a) (by show a < M.md.cells.length; omega)) ?_
  rintro r w4 ⟨rfl, hww⟩
  rw [hww]
  refine oC (mpush_ret h3 (by show M.md.stack.dropLast.length ≤ 58; rw [List.length_dropLast]; omega) hc _) ?_
  rintro r w5 ⟨rfl, h5, hk5⟩
  refine au ?_
  rw [ha]
  exact rn_end Tryz.func238 (.inr (.inl ⟨rfl, rfl⟩)) ⟨rfl, hk1.of0.tr (hk13.tr hk5), h5⟩
 ·rw [if_neg hc0]
  rw [show sayB i.2.2.1 (topS M.md.stack) = false by simpa [sayB] using hc0]
  refine oC (mstop_ret h3 11 (by decide)) ?_
  rintro r w4 ⟨rfl, h4, hk4⟩
  refine au ?_
  exact rn_ret Tryz.func238 (.inr (.inl ⟨rfl, rfl⟩)) ⟨rfl, hk1.of0.tr (hk13.tr hk4), h4.b⟩
theorem mputCell_ret (h : Vm Y Z R B w x fp M) (i : Is) (h1 : 2 ≤ M.md.stack.length) (hs : M.md.stack.length ≤ 24) (hc : M.md.cells.length ≤ 48) (hA : 0 ≤ i.2.1) (hAB : i.2.1 + i.2.2.1 ≤ (M.md.cells.length : Int)) :
  Ret Tryz.prog 242 [.pointer (some ⟨x, 0, none⟩), .agg (iC i).toArray] w fun r w' => r = .tuple #[] ∧ Keep [M.m] w w' ∧
   Vm Y Z R B w' x fp { M with md := if 0 ≤ topS M.md.stack.dropLast ∧ topS M.md.stack.dropLast < i.2.2.1 then { M.md with stack := M.md.stack.dropLast.dropLast, cells := M.md.cells.set (i.2.1 + topS M.md.stack.dropLast).toNat (topS M.md.stack) } else { M.md with stack := M.md.stack.dropLast.dropLast, state := 13 } } := by
 refine ret_of 23 Tryz.func242 rfl rfl (by simp) ?_
 refine au ?_
 refine pl_op rfl rfl (opTo_boxN (iC i) rfl rfl rfl ?_)
 intro w1 x1 hx1 hs1 hk1 hb1
 have hml := (h.lt _ h.mIn).2.1
 have hmx : x1 ∉ [M.m] := by
  intro hm
  have hm : x1 = M.o.m := List.mem_singleton.1 hm
  omega
 refine oC (mpop_ret (Vx.keep0 h hk1) (by omega) (by omega)) ?_
 rintro r w2 ⟨rfl, h2, hk2⟩
 refine oC (mpop_ret h2 (by show 1 ≤ M.md.stack.dropLast.length; rw [List.length_dropLast]; omega) (by show M.md.stack.dropLast.length ≤ 59; rw [List.length_dropLast]; omega)) ?_
 rintro r w3 ⟨rfl, h3, hk3⟩
 have hk13 : Keep [M.m] w1 w3 := hk2.tr hk3
 have hb3 := hk13.blk hb1 hmx
 refine au ?_
 refine pl_val (.agg (iC i).toArray) rfl rfl (val_load (iC i) hT rfl rfl rfl (hb3.range (by rfl))) ?_
 refine oC (msays_ret i (topS M.md.stack.dropLast) w3) ?_
 rintro r w4 ⟨rfl, hk4⟩
 have h4 := Vx.keep0 h3 hk4
 have hb4 := hk4.blk hb3 (by simp)
 have hk14 : Keep [M.m] w1 w4 := hk13.tr0 hk4
 by_cases hc0 : 0 ≤ topS M.md.stack.dropLast ∧ topS M.md.stack.dropLast < i.2.2.1
 ·rw [if_pos hc0]
  rw [show sayB i.2.2.1 (topS M.md.stack.dropLast) = true by simp [sayB, hc0]]
  obtain ⟨a, ha⟩ : ∃ a : Nat, i.2.1 + topS M.md.stack.dropLast = (a : Nat) := ⟨(i.2.1 + topS M.md.stack.dropLast).toNat, by omega⟩
  refine lB hb4 ?_
  refine nM ((a : Nat) : Int) ?_
  refine oC (msetCell_ret h4 hc (a := a) (by show a < M.md.cells.length; omega) (topS M.md.stack)) ?_
  rintro r w5 ⟨rfl, h5, hk5⟩
  refine au ?_
  rw [ha, Int.toNat_natCast]
  exact rn_end Tryz.func242 (.inr (.inl ⟨rfl, rfl⟩)) ⟨rfl, hk1.of0.tr (hk14.tr hk5), h5⟩
 ·rw [if_neg hc0]
  rw [show sayB i.2.2.1 (topS M.md.stack.dropLast) = false by simpa [sayB] using hc0]
  refine oC (mstop_ret h4 11 (by decide)) ?_
  rintro r w5 ⟨rfl, h5, hk5⟩
  refine au ?_
  exact rn_ret Tryz.func242 (.inr (.inl ⟨rfl, rfl⟩)) ⟨rfl, hk1.of0.tr (hk14.tr hk5), h5⟩
theorem Vx.print {O : Mo} {E : List Int → Prop} (h : Vx Y R B w x fp O E) (hl : O.pr.1.length ≤ 400000) (k n : Int) : Ret Tryz.prog 264 [.pointer (some ⟨O.q, 0, none⟩), .int .i64 k, .int .i64 n] w fun r w' => r = .tuple #[] ∧ ∃ fp', Vx Y R B w' x fp' { O with pr := putI O.pr k n } E ∧ Keep fp w w' ∧ ∀ k ∈ fp', k ∈ fp ∨ w.heap.size ≤ k := by
 obtain ⟨d, s, S, W, D, wv, cv, iv, pv, rfl, h, e⟩ := h
 refine (pput_ret ⟨pv, rfl, h.pr⟩ hl k n).mono ?_
 rintro r w1 ⟨rfl, fq', ⟨pv', rfl, hp1⟩, hk1, hf1⟩
 have hq : ∀ k ∈ O.q :: obs pv, ∃ L e, Blk w k L e ∧ (e = tPr ∨ e = tLg) := fun k hk => by
  rcases List.mem_cons.1 hk with rfl | hk
  ·exact ⟨_, _, h.pr.blk, .inl rfl⟩
  ·obtain ⟨L, hL⟩ := h.pr.row.blk k hk
   exact ⟨L, _, hL, .inr rfl⟩
 have ne : ∀ {b : Nat} {L : List Value} {e : TypeId}, Blk w b L e → e ≠ tPr → e ≠ tLg → b ∉ O.q :: obs pv := fun {b L e} hb h1 h2 hm => by
  obtain ⟨L', e', hb', he⟩ := hq b hm
  rcases he with rfl | rfl
  ·exact Blk.ne hb hb' h1 rfl
  ·exact Blk.ne hb hb' h2 rfl
 have hiv : ∀ k ∈ obs iv, k ∉ O.q :: obs pv := fun k hk hm => by
  rcases List.mem_cons.1 hm with rfl | hm
  ·exact h.inp.ne h.pr.blk nePL _ hk (by simp)
  ·exact h.apt k hm hk
 have hdk : ∀ k ∈ fpD d wv, k ∉ O.q :: obs pv := fun k hk hm => by
  obtain ⟨L', e', hb', he⟩ := hq k hm
  rcases he with rfl | rfl
  ·exact not_fp h.st.dsk hb' (by decide) hk
  ·exact not_fp h.st.dsk hb' (by decide) hk
 refine ⟨rfl, _, ⟨d, s, S, W, D, wv, cv, iv, pv', rfl, ⟨⟨h.st.mem.keep hk1 (ne h.st.mem.blk (by decide) (by decide)), hk1.blk h.st.sto (ne h.st.sto (by decide) (by decide)), h.st.dsk.keep hk1 hdk, h.st.good, h.st.tied, h.st.hm⟩, h.hs, h.gen, hp1, hk1.blk h.blk (ne h.blk neMP neML), ?_, h.inp.keep hk1 hiv, h.hx, ?_, ?_⟩, e⟩, ?_, ?_⟩
 ·exact h.code.keep hk1 fun c hR => ⟨h.pr.ro c hR, fun hm => h.pr.nr c hm hR⟩
 ·intro k hk hm
  rcases hf1 k (by simp [hk]) with h1 | h1
  ·exact hiv k hm h1
  ·have := (h.inp.lt k hm).2
   omega
 ·intro k hk hR
  rcases mem_fpV.1 hk with h1 | h1 | h1 | h1 | h1 | h1
  ·exact h.nr k (mem_fpV.2 (.inl h1)) hR
  ·exact h.nr k (mem_fpV.2 (.inr (.inl h1))) hR
  ·exact h.nr k (mem_fpV.2 (.inr (.inr (.inl h1)))) hR
  ·exact h.nr k (mem_fpV.2 (.inr (.inr (.inr (.inl h1))))) hR
  ·exact hp1.nr k h1 hR
  ·exact h.nr k (mem_fpV.2 (.inr (.inr (.inr (.inr (.inr h1)))))) hR
 ·exact hk1.mono fun k hk => .inl (mem_fpV.2 (.inr (.inr (.inr (.inr (.inl hk))))))
 ·intro k hk
  rcases mem_fpV.1 hk with h1 | h1 | h1 | h1 | h1 | h1
  ·exact .inl (mem_fpV.2 (.inl h1))
  ·exact .inl (mem_fpV.2 (.inr (.inl h1)))
  ·exact .inl (mem_fpV.2 (.inr (.inr (.inl h1))))
  ·exact .inl (mem_fpV.2 (.inr (.inr (.inr (.inl h1)))))
  ·rcases hf1 k h1 with h2 | h2
   ·exact .inl (mem_fpV.2 (.inr (.inr (.inr (.inr (.inl h2))))))
   ·exact .inr h2
  ·exact .inl (mem_fpV.2 (.inr (.inr (.inr (.inr (.inr h1))))))
theorem mprint_ret (h : Vm Y Z R B w x fp M) (ho : M.md.out ≤ 400000) (hl : M.pr.1.length ≤ 400000) (n : Int) : Ret Tryz.prog 243 [.pointer (some ⟨x, 0, none⟩), .int .i64 n] w fun r w' => r = .tuple #[] ∧ ∃ fp', Vm Y Z R B w' x fp' { M with md := { M.md with out := M.md.out + 1 }, pr := putP M.pr M.md.out n } ∧ Keep fp w w' ∧ ∀ k ∈ fp', k ∈ fp ∨ w.heap.size ≤ k := by
 refine ret_of 24 Tryz.func243 rfl rfl (by simp) ?_
 refine au ?_
 refine pl_val _ rfl rfl (val_load1 hT rfl rfl rfl (h.ptr)) ?_
 refine oC (h.load 3 (M.md.out : Nat) fun W hl e => loadW_at e.out (by decide)) ?_
 rintro r w1 ⟨rfl, hww⟩
 rw [hww]
 refine au ?_
 refine pl_val _ rfl rfl (val_load1 hT rfl rfl rfl (h.prt)) ?_
 refine oC (h.print hl (M.md.out : Nat) n) ?_
 rintro r w2 ⟨rfl, fp', h2, hk2, hf2⟩
 rw [show putI M.o.pr ((M.md.out : Nat) : Int) n = putP M.pr M.md.out n from putI_nat _ _ _] at h2
 refine au ?_
 refine pl_val _ rfl rfl (val_load1 hT rfl rfl rfl (h2.ptr)) ?_
 refine nM ((M.md.out + 1 : Nat) : Int) ?_
 refine pl_op rfl rfl (opTo_call (fst := []) (cap := []) rfl rfl rfl rfl (by decide +kernel) ((h2.put (E' := fun W => Ena Z W { M.md with out := M.md.out + 1 }) 3 ((M.md.out + 1 : Nat) : Int) fun W hl e => by
  rw [show (3 : Int) = ((3 : Nat) : Int) from rfl, putW_at W _ (by decide)]
  exact ena_out e hl rfl).mono ?_))
 rintro r w3 ⟨rfl, h3, hk3⟩
 refine au ?_
 refine rn_end Tryz.func243 (.inr (.inl ⟨rfl, rfl⟩)) ⟨rfl, fp', h3, hk2.trans hk3 fun k hk => .inl ?_, hf2⟩
 rw [List.mem_singleton.1 hk]
 exact h.mIn
theorem mread_ret (h : Vm Y Z R B w x fp M) (hr : M.md.read ≤ 1000000) (hc : M.md.cells.length ≤ 48) {a : Nat} (ha : a < M.md.cells.length) : Ret Tryz.prog 244 [.pointer (some ⟨x, 0, none⟩), .int .i64 (a : Nat)] w fun r w' => r = .tuple #[] ∧ Keep [M.m] w w' ∧
   Vm Y Z R B w' x fp { M with md := if M.md.read < M.inp.length then { M.md with cells := M.md.cells.set a (M.inp.getD M.md.read 0), read := M.md.read + 1 } else { M.md with state := 14 } } := by
 obtain ⟨cv, iv, hbk, hcd, hin, hro⟩ := h.bk
 have hin' : RowL w B iv M.inp := hin
 obtain ⟨ia, icap, rfl⟩ := hin'.form
 refine ret_of 40 Tryz.func244 rfl rfl (by simp) ?_
 refine au ?_
 refine pl_val _ rfl rfl (val_load1 hT rfl rfl rfl (h.ptr)) ?_
 refine oC (h.load 2 (M.md.read : Nat) fun W hl e => loadW_at e.read (by decide)) ?_
 rintro r w1 ⟨rfl, hww⟩
 rw [hww]
 refine nay ?_
 refine lB hbk ?_
 refine au ?_
 by_cases hlt : M.md.read < M.inp.length
 ·rw [if_pos hlt]
  refine nay ?_
  refine lB hbk ?_
  refine au ?_
  obtain ⟨y, hy⟩ : ∃ y, y = M.inp.getD M.md.read 0 := ⟨_, rfl⟩
  have hyi : M.inp[M.md.read]? = some y := by
   rw [hy, List.getD_eq_getElem?_getD, List.getElem?_eq_getElem hlt]
   rfl
  rw [← hy]
  obtain ⟨g, cap', hv, hcl⟩ := hin'.at hyi
  cases hv
  refine pl_val _ rfl rfl (val_index M.md.read hT rfl rfl rfl rfl rfl hlt w) ?_
  refine pl_val _ rfl rfl (val_load1 hT rfl rfl rfl ((by rw [Nat.zero_add, Nat.mul_one]; exact hcl))) ?_
  refine oC (msetCell_ret h hc ha y) ?_
  rintro r w2 ⟨rfl, h2, hk2⟩
  refine au ?_
  refine pl_val _ rfl rfl (val_load1 hT rfl rfl rfl (h2.ptr)) ?_
  refine nM ((M.md.read + 1 : Nat) : Int) ?_
  refine pl_op rfl rfl (opTo_call (fst := []) (cap := []) rfl rfl rfl rfl (by decide +kernel) ((h2.put (E' := fun W => Ena Z W { M.md with cells := M.md.cells.set a y, read := M.md.read + 1 }) 2 ((M.md.read + 1 : Nat) : Int) fun W hl e => by
   rw [show (2 : Int) = ((2 : Nat) : Int) from rfl, putW_at W _ (by decide)]
   exact ena_read e hl rfl).mono ?_))
  rintro r w3 ⟨rfl, h3, hk3⟩
  refine au ?_
  exact rn_end Tryz.func244 (.inr (.inl ⟨rfl, rfl⟩)) ⟨rfl, hk2.tr hk3, h3⟩
 ·rw [if_neg hlt]
  refine ye ?_
  refine oC (mstop_ret h 12 (by decide)) ?_
  rintro r w2 ⟨rfl, h2, hk2⟩
  refine au ?_
  exact rn_ret Tryz.func244 (.inr (.inl ⟨rfl, rfl⟩)) ⟨rfl, hk2, h2⟩
end
end
section
open Go.Proofs
theorem Blk.inj {w : World} {b : Nat} {L L' : List Value} {e e' : TypeId} (h : Blk w b L e) (h' : Blk w b L' e') : L = L' := by
 have := h.symm.trans h'
 simp only [Option.some.injEq, Obj.cells.injEq] at this
 simpa using congrArg Array.toList this.1
theorem size_bo : sizeOk Tryz.prog 4 1 = true := by kernel_rfl
def Dn (Y : Nat → List Int → Prop) (Z : List Int) (R : Nat → Prop) (B : Nat) (w w' : World) (x : Nat) (fp : List Nat) (M' : Mx) : Prop := ∃ fp', Vp Y Z R B w' x fp' M' ∧ Keep fp w w' ∧ ∀ k ∈ fp', k ∈ fp ∨ w.heap.size ≤ k
section
variable {Y : Nat → List Int → Prop} {Z : List Int} {R : Nat → Prop} {B : Nat} {w w0 w' : World} {x : Nat} {fp : List Nat} {M M' : Mx}
theorem Dn.ofP (h : Vp Y Z R B w' x fp M') (hm : M.m ∈ fp) (hk : Keep [M.m] w w') : Dn Y Z R B w w' x fp M' := ⟨fp, h, hk.mono fun k hk => .inl (by rw [List.mem_singleton.1 hk]; exact hm), fun _ hk => .inl hk⟩
theorem Dn.of (h : Vm Y Z R B w' x fp M') (hm : M.m ∈ fp) (hk : Keep [M.m] w w') : Dn Y Z R B w w' x fp M' := Dn.ofP h.b hm hk
theorem Dn.late (hk : Keep [] w0 w) (h : Dn Y Z R B w w' x fp M') : Dn Y Z R B w0 w' x fp M' := by
 obtain ⟨fp', h1, h2, h3⟩ := h
 exact ⟨fp', h1, hk.of0.tr h2, fun k hk' => (h3 k hk').imp id fun h => Nat.le_trans hk.size h⟩
theorem mdeeds_all (h : Vm Y Z R B w x fp M) (hl : M.left ≤ 0) : Ret Tryz.prog 247 [.pointer (some ⟨x, 0, none⟩)] w fun r w' => r = .int .i64 (-1) ∧ w' = w := by
 obtain ⟨cv, iv, hbk, hcd, hin, hro⟩ := h.bk
 have hl : M.o.left ≤ 0 := hl
 refine ret_of 21 Tryz.func247 rfl rfl (by simp) ?_
 refine lB hbk ?_
 refine ye ?_
 refine au ?_
 exact rn_ret Tryz.func247 (.inl ⟨_, rfl, rfl⟩) ⟨rfl, rfl⟩
theorem mdeeds_some {cv iv : Value} {m q s : Nat} {left : Int} {torn : Bool} {W : List Int} {D : List Bool} (hbk : Blk w x (maC m cv iv q left torn) tMa) (hm : MemV w m s W D) (h0 : 0 < left) (h1 : left < 9223372036854775808) :
  Ret Tryz.prog 247 [.pointer (some ⟨x, 0, none⟩)] w fun r w' => (∃ may, r = .int .i64 may ∧ doneB (dirtyPs W D) may = false ∧ deedsN (dirtyPs W D) may = (((dirtyPs W D).length : Int) + 5 - left).toNat) ∧ Keep [] w w' := by
 have hlen : (dirtyPs W D).length ≤ 14 := dirtyTo_len W D 14
 refine ret_of 21 Tryz.func247 rfl rfl (by simp) ?_
 refine lB hbk ?_
 refine nay ?_
 refine au ?_
 refine rn_draw (fun w' => Keep [] w w') [] hMix ?_
 have hS : Keep [] w w.drew := (Keep.refl _ _).drew
 generalize w.drew = w1 at *
 refine tk 0 ?_
 refine tk 1 ?_
 refine tk 2 ?_
 refine dr_val 3 (.pointer (some ⟨m, 0, none⟩)) rfl (by decide +kernel) rfl rfl (fun w9 hS9 => val_load1 hT rfl rfl rfl ((hS9.blk hbk (by simp)).cell rfl)) hS ?_
 refine tk 7 ?_
 refine tk 8 ?_
 refine tk 9 ?_
 refine dr_val 10 (.int .i64 left) rfl (by decide +kernel) rfl rfl (fun w9 hS9 => val_load1 hT rfl rfl rfl ((hS9.blk hbk (by simp)).cell rfl)) hS ?_
 refine dC 4 (dirty_ret (hm.keep hS (by simp))) ?_
 rintro r w2 ⟨hp2, hk2⟩
 obtain ⟨pa, pcap, rfl⟩ := hp2.form
 refine ⟨fun _ => hS.tr hk2, ?_⟩
 refine tk 5 ?_
 refine dr_num 6 ((((dirtyPs W D).length + 5 : Nat) : Int)) rfl (by decide +kernel) rfl rfl rfl rfl rfl (by simp only [ariP]; omega) ?_
 refine dr_num 11 ((((dirtyPs W D).length : Int) + 5 - left)) rfl (by decide +kernel) rfl rfl rfl rfl rfl (by simp only [ariP]; omega) ?_
 refine dr_any 12 _ rfl (by decide +kernel) rfl rfl (fun w => mval_max _ rfl rfl rfl rfl w) ?_
 refine tk 13 ?_
 refine dr_done (by decide +kernel) ?_
 refine au ?_
 refine rn_ret Tryz.func247 (.inl ⟨_, rfl, rfl⟩) ⟨⟨_, rfl, ?_, ?_⟩, hS.tr hk2⟩
 ·unfold doneB
  rw [decide_eq_false_iff_not]
  split <;> omega
 ·unfold deedsN
  rw [if_neg (by split <;> omega)]
  split <;> omega
theorem Vx.sync {O : Mo} {E : List Int → Prop} {Y' : Nat → List Int → Prop} (h : Vx Y R B w x fp O E) (hg : O.gen < 1000000) (hY : ∀ d S S2 W, Y d S → E W → W.length = 112 → allS S2 = W → Y' d S2) : Ret Tryz.prog 246 [.pointer (some ⟨O.m, 0, none⟩), .int .i64 (-1)] w fun r w' => r = .bool true ∧ ∃ fp', Vx Y' R B w' x fp' { O with gen := O.gen + 1 } E ∧ Keep fp w w' ∧ ∀ k ∈ fp', k ∈ fp ∨ w.heap.size ≤ k := by
 obtain ⟨d, s, S, W, D, wv, cv, iv, pv, rfl, h, e⟩ := h
 have hmay : doneB (dirtyPs W D) (-1) = true := doneB_neg _
 refine (sync_ret h.st.mem h.st.sto h.st.dsk (by rw [h.gen]; exact hg) (-1)).mono ?_
 rintro v w1 ⟨rfl, hm1, hs1, hk1, wv1, hd1, hf1⟩
 rw [hmay] at hm1
 obtain ⟨⟨S2, hS2, hN⟩, _⟩ := commit_view h.st.good (chk_dirty W D) (dirtyTo_wf h.st.mem.wl D (by decide))
 have hn : deedsN (dirtyPs W D) (-1) = (dirtyPs W D).length + 5 := by
  unfold deedsN
  rw [if_pos (.inl (by decide))]
 rw [hn] at hd1
 rw [hS2] at hd1
 have hall := hN.all h.st.tied
 have ne : ∀ {b : Nat} {L : List Value} {t : TypeId}, Blk w b L t → t ≠ 283 → (t == 258 || t == 320) = false → b ∉ O.m :: fpD d wv := fun {b L t} hb h1 h2 hm => by
  rcases List.mem_cons.1 hm with h3 | h3
  ·exact Blk.ne hb h.st.mem.blk h1 h3
  ·exact not_fp h.st.dsk hb h2 h3
 have nel : ∀ {v : Value} {l : List Int}, RowL w B v l → ∀ k ∈ obs v, k ∉ O.m :: fpD d wv := fun {v l} hv k hk => by
  obtain ⟨L, hL⟩ := hv.blk k hk
  exact ne hL (by decide) (by decide)
 have hR : ∀ c, R c → c < w.heap.size ∧ c ∉ O.m :: fpD d wv := fun c hR => ⟨h.pr.ro c hR, fun hm => by
  rcases List.mem_cons.1 hm with h3 | h3
  ·exact h.nr c (mem_fpV.2 (.inr (.inl h3))) hR
  ·exact h.nr c (mem_fpV.2 (.inr (.inr (.inr (.inl h3))))) hR⟩
 refine ⟨by rw [hmay], _, ⟨d, s, S2, W, _, wv1, cv, iv, pv, rfl, ⟨⟨hm1, hs1, hd1, hN.good, tied_all _ hall, h.st.hm⟩, h.hs, by rw [hN.gen, h.gen], h.pr.keep hk1 ?_, hk1.blk h.blk (ne h.blk (by decide) (by decide)), h.code.keep hk1 hR, h.inp.keep hk1 (nel h.inp), h.hx, h.apt, ?_⟩, e.1, hY d S S2 W e.2 e.1 h.st.mem.wl (allS_eq h.st.mem.wl hall)⟩, ?_, ?_⟩
 ·intro k hm hq
  rcases List.mem_cons.1 hq with rfl | hq
  ·exact ne h.pr.blk (by decide) (by decide) hm
  ·exact nel h.pr.row k hq hm
 ·intro k hk hRk
  have hlt := h.pr.ro k hRk
  rcases mem_fpV.1 hk with h1 | h1 | h1 | h1 | h1 | h1
  ·exact h.nr k (mem_fpV.2 (.inl h1)) hRk
  ·exact h.nr k (mem_fpV.2 (.inr (.inl h1))) hRk
  ·exact h.nr k (mem_fpV.2 (.inr (.inr (.inl h1)))) hRk
  ·rcases hf1 k h1 with h2 | h2
   ·exact h.nr k (mem_fpV.2 (.inr (.inr (.inr (.inl h2))))) hRk
   ·omega
  ·exact h.nr k (mem_fpV.2 (.inr (.inr (.inr (.inr (.inl h1)))))) hRk
  ·exact h.nr k (mem_fpV.2 (.inr (.inr (.inr (.inr (.inr h1)))))) hRk
 ·refine hk1.mono fun k hk => .inl ?_
  rcases List.mem_cons.1 hk with h3 | h3
  ·exact mem_fpV.2 (.inr (.inl h3))
  ·exact mem_fpV.2 (.inr (.inr (.inr (.inl h3))))
 ·intro k hk
  rcases mem_fpV.1 hk with h1 | h1 | h1 | h1 | h1 | h1
  ·exact .inl (mem_fpV.2 (.inl h1))
  ·exact .inl (mem_fpV.2 (.inr (.inl h1)))
  ·exact .inl (mem_fpV.2 (.inr (.inr (.inl h1))))
  ·rcases hf1 k h1 with h2 | h2
   ·exact .inl (mem_fpV.2 (.inr (.inr (.inr (.inl h2)))))
   ·exact .inr h2
  ·exact .inl (mem_fpV.2 (.inr (.inr (.inr (.inr (.inl h1))))))
  ·exact .inl (mem_fpV.2 (.inr (.inr (.inr (.inr (.inr h1))))))
theorem Vx.own {O : Mo} {E : List Int → Prop} {left : Int} {torn : Bool} (h : Vx Y R B w x fp O E) (hk : Keep [x] w w') (hb : ∀ {cv iv : Value}, Blk w x (maC O.m cv iv O.q O.left O.torn) tMa → Blk w' x (maC O.m cv iv O.q left torn) tMa) : Vx Y R B w' x fp { O with left := left, torn := torn } E := by
 obtain ⟨d, s, S, W, D, wv, cv, iv, pv, rfl, h, e⟩ := h
 have ne : ∀ {b : Nat} {L : List Value} {t : TypeId}, Blk w b L t → t ≠ tMa → b ∉ [x] := fun {b L t} hb h1 hm => Blk.ne hb h.blk h1 (List.mem_singleton.1 hm)
 have nel : ∀ {v : Value} {l : List Int}, RowL w B v l → ∀ k ∈ obs v, k ∉ [x] := fun {v l} hv => hv.ne h.blk neML
 refine ⟨d, s, S, W, D, wv, cv, iv, pv, rfl, ⟨⟨h.st.mem.keep hk (ne h.st.mem.blk (by decide)), hk.blk h.st.sto (ne h.st.sto (by decide)), h.st.dsk.keep hk fun k hm hx => ?_, h.st.good, h.st.tied, h.st.hm⟩, h.hs, h.gen, h.pr.keep hk fun k hm hq => ?_, hb h.blk, h.code.keep hk fun c hR => ⟨h.pr.ro c hR, fun hm => ?_⟩, h.inp.keep hk (nel h.inp), h.hx, h.apt, h.nr⟩, e⟩
 ·rw [List.mem_singleton.1 hx] at hm
  exact not_fp h.st.dsk h.blk (by decide) hm
 ·rcases List.mem_cons.1 hq with rfl | hq
  ·exact ne h.pr.blk neMP.symm hm
  ·exact nel h.pr.row k hq hm
 ·rw [List.mem_singleton.1 hm] at hR
  exact h.nr _ (mem_fpV.2 (.inl rfl)) hR
end
end
section
open Go.Proofs
def TnD (Y : Nat → List Int → Prop) (E : List Int → Prop) (R : Nat → Prop) (B : Nat) (w w' : World) (fp : List Nat) (O : Mo) : Prop :=
 ∃ d S W D wv pv, E W ∧ Y d S ∧ W.length = 112 ∧ Good S ∧ Tied S W D ∧ genS S = O.gen ∧
  DiskV B w' d (doDeeds ((deedsOf S (dirtyPs W D)).take (((dirtyPs W D).length : Int) + 5 - O.left).toNat) (S, [])).1 (doDeeds ((deedsOf S (dirtyPs W D)).take (((dirtyPs W D).length : Int) + 5 - O.left).toNat) (S, [])).2 wv ∧
  Pv R B w' O.q pv O.pr ∧ (∀ k ∈ fpD d wv, k ∈ fp ∨ w.heap.size ≤ k) ∧ ∀ k ∈ O.q :: obs pv, k ∈ fp
abbrev Mx.at (M : Mx) (a : Md) : Mx := { M with md := { a with next := a.next + 1 } }
section
variable {Y : Nat → List Int → Prop} {Z : List Int} {R : Nat → Prop} {B : Nat} {w : World} {x : Nat} {fp : List Nat} {M : Mx} {a : Md} {A K N : Int}
theorem mdo_num (h : Vm Y Z R B w x fp (M.at a)) (hs : a.stack.length ≤ 24) (hc : a.cells.length ≤ 48) :
  Ret Tryz.prog 211 [.pointer (some ⟨x, 0, none⟩), .agg (iC (1, A, K, N)).toArray] w fun r w' => r = .tuple #[] ∧ Dn Y Z R B w w' x fp { M with md := { a with next := a.next + 1, stack := a.stack ++ [N] } } := by
 refine ret_of 104 Tryz.func211 rfl rfl (by simp) ?_
 refine au ?_
 refine pl_op rfl rfl (opTo_boxN (iC (1, A, K, N)) rfl rfl rfl ?_)
 intro w1 x1 hx1 hs1 hk1 hb1
 have hml := (h.lt _ h.mIn).2.1
 have hmx : x1 ∉ [M.m] := by
  intro hm
  have hm : x1 = (M.at a).o.m := List.mem_singleton.1 hm
  omega
 have h1 := Vx.keep0 h hk1
 refine lB hb1 ?_
 refine aub ?_
 refine oC (mpush_ret h1 (by show a.stack.length ≤ 58; omega) hc N) ?_
 rintro r w2 ⟨rfl, h2, hk2⟩
 refine au ?_
 exact rn_end Tryz.func211 (.inr (.inl ⟨rfl, rfl⟩)) ⟨rfl, Dn.late hk1 (Dn.ofP (M := M) h2 h.mIn hk2)⟩
theorem mdo_var (h : Vm Y Z R B w x fp (M.at a)) (hs : a.stack.length ≤ 24) (hc : a.cells.length ≤ 48) (h0 : 0 ≤ A) (hA : A < (a.cells.length : Int)) :
  Ret Tryz.prog 211 [.pointer (some ⟨x, 0, none⟩), .agg (iC (2, A, K, N)).toArray] w fun r w' => r = .tuple #[] ∧ Dn Y Z R B w w' x fp { M with md := { a with next := a.next + 1, stack := a.stack ++ [cellAt a.cells A] } } := by
 refine ret_of 104 Tryz.func211 rfl rfl (by simp) ?_
 refine au ?_
 refine pl_op rfl rfl (opTo_boxN (iC (2, A, K, N)) rfl rfl rfl ?_)
 intro w1 x1 hx1 hs1 hk1 hb1
 have hml := (h.lt _ h.mIn).2.1
 have hmx : x1 ∉ [M.m] := by
  intro hm
  have hm : x1 = (M.at a).o.m := List.mem_singleton.1 hm
  omega
 have h1 := Vx.keep0 h hk1
 refine lB hb1 ?_
 obtain ⟨k, rfl⟩ : ∃ k : Nat, A = (k : Nat) := ⟨A.toNat, by omega⟩
 refine aub ?_
 refine oC (mcell_at h1 hc (a := k) (by show k < a.cells.length; omega)) ?_
 rintro r w1' ⟨rfl, hww⟩
 rw [hww]
 refine oC (mpush_ret h1 (by show a.stack.length ≤ 58; omega) hc _) ?_
 rintro r w2 ⟨rfl, h2, hk2⟩
 refine au ?_
 exact rn_end Tryz.func211 (.inr (.inl ⟨rfl, rfl⟩)) ⟨rfl, Dn.late hk1 (Dn.ofP (M := M) h2 h.mIn hk2)⟩
theorem mdo_get (h : Vm Y Z R B w x fp (M.at a)) (h1s : 1 ≤ a.stack.length) (hs : a.stack.length ≤ 24) (hc : a.cells.length ≤ 48) (h0 : 0 ≤ A) (hA : A + K ≤ (a.cells.length : Int)) :
  Ret Tryz.prog 211 [.pointer (some ⟨x, 0, none⟩), .agg (iC (3, A, K, N)).toArray] w fun r w' => r = .tuple #[] ∧ Dn Y Z R B w w' x fp { M with md := if 0 ≤ topS a.stack ∧ topS a.stack < K then { a with next := a.next + 1, stack := a.stack.dropLast ++ [cellAt a.cells (A + topS a.stack)] } else { a with next := a.next + 1, stack := a.stack.dropLast, state := 13 } } := by
 refine ret_of 104 Tryz.func211 rfl rfl (by simp) ?_
 refine au ?_
 refine pl_op rfl rfl (opTo_boxN (iC (3, A, K, N)) rfl rfl rfl ?_)
 intro w1 x1 hx1 hs1 hk1 hb1
 have hml := (h.lt _ h.mIn).2.1
 have hmx : x1 ∉ [M.m] := by
  intro hm
  have hm : x1 = (M.at a).o.m := List.mem_singleton.1 hm
  omega
 have h1 := Vx.keep0 h hk1
 refine lB hb1 ?_
 refine aub ?_
 refine pl_val (.agg (iC (3, A, K, N)).toArray) rfl rfl (val_load (iC (3, A, K, N)) hT rfl rfl rfl (hb1.range (by rfl))) ?_
 refine oC (mgetCell_ret h1 (3, A, K, N) h1s hs hc h0 hA) ?_
 rintro r w2 ⟨rfl, hk2, h2⟩
 refine au ?_
 exact rn_end Tryz.func211 (.inr (.inl ⟨rfl, rfl⟩)) ⟨rfl, Dn.late hk1 (Dn.ofP (M := M) h2 h.mIn hk2)⟩
theorem mdo_add (h : Vm Y Z R B w x fp (M.at a)) (h2s : 2 ≤ a.stack.length) (hs : a.stack.length ≤ 24) (hc : a.cells.length ≤ 48) :
  Ret Tryz.prog 211 [.pointer (some ⟨x, 0, none⟩), .agg (iC (4, A, K, N)).toArray] w fun r w' => r = .tuple #[] ∧ Dn Y Z R B w w' x fp { M with md := { a with next := a.next + 1, stack := a.stack.dropLast.dropLast ++ [ariI 4 (topS a.stack.dropLast) (topS a.stack)] } } := by
 refine ret_of 104 Tryz.func211 rfl rfl (by simp) ?_
 refine au ?_
 refine pl_op rfl rfl (opTo_boxN (iC (4, A, K, N)) rfl rfl rfl ?_)
 intro w1 x1 hx1 hs1 hk1 hb1
 have hml := (h.lt _ h.mIn).2.1
 have hmx : x1 ∉ [M.m] := by
  intro hm
  have hm : x1 = (M.at a).o.m := List.mem_singleton.1 hm
  omega
 have h1 := Vx.keep0 h hk1
 refine lB hb1 ?_
 refine aub ?_
 refine oC (mpop_ret h1 (by show 1 ≤ a.stack.length; omega) (by show a.stack.length ≤ 59; omega)) ?_
 rintro r w2 ⟨rfl, h2, hk2⟩
 refine oC (mpop_ret h2 (by show 1 ≤ a.stack.dropLast.length; rw [List.length_dropLast]; omega) (by show a.stack.dropLast.length ≤ 59; rw [List.length_dropLast]; omega)) ?_
 rintro r w3 ⟨rfl, h3, hk3⟩
 have hk13 : Keep [M.m] w1 w3 := hk2.tr hk3
 have hb3 := hk13.blk hb1 hmx
 clear hb1
 refine lB hb3 ?_
 refine oC (mreckon_ret 4 (topS a.stack.dropLast) (topS a.stack) (by decide) w3) ?_
 rintro r w3' ⟨rfl, hww⟩
 rw [hww]
 refine oC (mpush_ret h3 (by show a.stack.dropLast.dropLast.length ≤ 58; simp only [List.length_dropLast]; omega) hc _) ?_
 rintro r w4 ⟨rfl, h4, hk4⟩
 refine au ?_
 exact rn_end Tryz.func211 (.inr (.inl ⟨rfl, rfl⟩)) ⟨rfl, Dn.late hk1 (Dn.ofP (M := M) h4 h.mIn (hk13.tr hk4))⟩
theorem mdo_sub (h : Vm Y Z R B w x fp (M.at a)) (h2s : 2 ≤ a.stack.length) (hs : a.stack.length ≤ 24) (hc : a.cells.length ≤ 48) :
  Ret Tryz.prog 211 [.pointer (some ⟨x, 0, none⟩), .agg (iC (5, A, K, N)).toArray] w fun r w' => r = .tuple #[] ∧ Dn Y Z R B w w' x fp { M with md := { a with next := a.next + 1, stack := a.stack.dropLast.dropLast ++ [ariI 5 (topS a.stack.dropLast) (topS a.stack)] } } := by
 refine ret_of 104 Tryz.func211 rfl rfl (by simp) ?_
 refine au ?_
 refine pl_op rfl rfl (opTo_boxN (iC (5, A, K, N)) rfl rfl rfl ?_)
 intro w1 x1 hx1 hs1 hk1 hb1
 have hml := (h.lt _ h.mIn).2.1
 have hmx : x1 ∉ [M.m] := by
  intro hm
  have hm : x1 = (M.at a).o.m := List.mem_singleton.1 hm
  omega
 have h1 := Vx.keep0 h hk1
 refine lB hb1 ?_
 refine aub ?_
 refine oC (mpop_ret h1 (by show 1 ≤ a.stack.length; omega) (by show a.stack.length ≤ 59; omega)) ?_
 rintro r w2 ⟨rfl, h2, hk2⟩
 refine oC (mpop_ret h2 (by show 1 ≤ a.stack.dropLast.length; rw [List.length_dropLast]; omega) (by show a.stack.dropLast.length ≤ 59; rw [List.length_dropLast]; omega)) ?_
 rintro r w3 ⟨rfl, h3, hk3⟩
 have hk13 : Keep [M.m] w1 w3 := hk2.tr hk3
 have hb3 := hk13.blk hb1 hmx
 clear hb1
 refine lB hb3 ?_
 refine oC (mreckon_ret 5 (topS a.stack.dropLast) (topS a.stack) (by decide) w3) ?_
 rintro r w3' ⟨rfl, hww⟩
 rw [hww]
 refine oC (mpush_ret h3 (by show a.stack.dropLast.dropLast.length ≤ 58; simp only [List.length_dropLast]; omega) hc _) ?_
 rintro r w4 ⟨rfl, h4, hk4⟩
 refine au ?_
 exact rn_end Tryz.func211 (.inr (.inl ⟨rfl, rfl⟩)) ⟨rfl, Dn.late hk1 (Dn.ofP (M := M) h4 h.mIn (hk13.tr hk4))⟩
theorem mdo_mul (h : Vm Y Z R B w x fp (M.at a)) (h2s : 2 ≤ a.stack.length) (hs : a.stack.length ≤ 24) (hc : a.cells.length ≤ 48) :
  Ret Tryz.prog 211 [.pointer (some ⟨x, 0, none⟩), .agg (iC (6, A, K, N)).toArray] w fun r w' => r = .tuple #[] ∧ Dn Y Z R B w w' x fp { M with md := { a with next := a.next + 1, stack := a.stack.dropLast.dropLast ++ [ariI 6 (topS a.stack.dropLast) (topS a.stack)] } } := by
 refine ret_of 104 Tryz.func211 rfl rfl (by simp) ?_
 refine au ?_
 refine pl_op rfl rfl (opTo_boxN (iC (6, A, K, N)) rfl rfl rfl ?_)
 intro w1 x1 hx1 hs1 hk1 hb1
 have hml := (h.lt _ h.mIn).2.1
 have hmx : x1 ∉ [M.m] := by
  intro hm
  have hm : x1 = (M.at a).o.m := List.mem_singleton.1 hm
  omega
 have h1 := Vx.keep0 h hk1
 refine lB hb1 ?_
 refine aub ?_
 refine oC (mpop_ret h1 (by show 1 ≤ a.stack.length; omega) (by show a.stack.length ≤ 59; omega)) ?_
 rintro r w2 ⟨rfl, h2, hk2⟩
 refine oC (mpop_ret h2 (by show 1 ≤ a.stack.dropLast.length; rw [List.length_dropLast]; omega) (by show a.stack.dropLast.length ≤ 59; rw [List.length_dropLast]; omega)) ?_
 rintro r w3 ⟨rfl, h3, hk3⟩
 have hk13 : Keep [M.m] w1 w3 := hk2.tr hk3
 have hb3 := hk13.blk hb1 hmx
 clear hb1
 refine lB hb3 ?_
 refine oC (mreckon_ret 6 (topS a.stack.dropLast) (topS a.stack) (by decide) w3) ?_
 rintro r w3' ⟨rfl, hww⟩
 rw [hww]
 refine oC (mpush_ret h3 (by show a.stack.dropLast.dropLast.length ≤ 58; simp only [List.length_dropLast]; omega) hc _) ?_
 rintro r w4 ⟨rfl, h4, hk4⟩
 refine au ?_
 exact rn_end Tryz.func211 (.inr (.inl ⟨rfl, rfl⟩)) ⟨rfl, Dn.late hk1 (Dn.ofP (M := M) h4 h.mIn (hk13.tr hk4))⟩
theorem mdo_less (h : Vm Y Z R B w x fp (M.at a)) (h2s : 2 ≤ a.stack.length) (hs : a.stack.length ≤ 24) (hc : a.cells.length ≤ 48) :
  Ret Tryz.prog 211 [.pointer (some ⟨x, 0, none⟩), .agg (iC (7, A, K, N)).toArray] w fun r w' => r = .tuple #[] ∧ Dn Y Z R B w w' x fp { M with md := { a with next := a.next + 1, stack := a.stack.dropLast.dropLast ++ [ariI 7 (topS a.stack.dropLast) (topS a.stack)] } } := by
 refine ret_of 104 Tryz.func211 rfl rfl (by simp) ?_
 refine au ?_
 refine pl_op rfl rfl (opTo_boxN (iC (7, A, K, N)) rfl rfl rfl ?_)
 intro w1 x1 hx1 hs1 hk1 hb1
 have hml := (h.lt _ h.mIn).2.1
 have hmx : x1 ∉ [M.m] := by
  intro hm
  have hm : x1 = (M.at a).o.m := List.mem_singleton.1 hm
  omega
 have h1 := Vx.keep0 h hk1
 refine lB hb1 ?_
 refine aub ?_
 refine oC (mpop_ret h1 (by show 1 ≤ a.stack.length; omega) (by show a.stack.length ≤ 59; omega)) ?_
 rintro r w2 ⟨rfl, h2, hk2⟩
 refine oC (mpop_ret h2 (by show 1 ≤ a.stack.dropLast.length; rw [List.length_dropLast]; omega) (by show a.stack.dropLast.length ≤ 59; rw [List.length_dropLast]; omega)) ?_
 rintro r w3 ⟨rfl, h3, hk3⟩
 have hk13 : Keep [M.m] w1 w3 := hk2.tr hk3
 have hb3 := hk13.blk hb1 hmx
 clear hb1
 refine lB hb3 ?_
 refine oC (mreckon_ret 7 (topS a.stack.dropLast) (topS a.stack) (by decide) w3) ?_
 rintro r w3' ⟨rfl, hww⟩
 rw [hww]
 refine oC (mpush_ret h3 (by show a.stack.dropLast.dropLast.length ≤ 58; simp only [List.length_dropLast]; omega) hc _) ?_
 rintro r w4 ⟨rfl, h4, hk4⟩
 refine au ?_
 exact rn_end Tryz.func211 (.inr (.inl ⟨rfl, rfl⟩)) ⟨rfl, Dn.late hk1 (Dn.ofP (M := M) h4 h.mIn (hk13.tr hk4))⟩
theorem mdo_same (h : Vm Y Z R B w x fp (M.at a)) (h2s : 2 ≤ a.stack.length) (hs : a.stack.length ≤ 24) (hc : a.cells.length ≤ 48) :
  Ret Tryz.prog 211 [.pointer (some ⟨x, 0, none⟩), .agg (iC (8, A, K, N)).toArray] w fun r w' => r = .tuple #[] ∧ Dn Y Z R B w w' x fp { M with md := { a with next := a.next + 1, stack := a.stack.dropLast.dropLast ++ [ariI 8 (topS a.stack.dropLast) (topS a.stack)] } } := by
 refine ret_of 104 Tryz.func211 rfl rfl (by simp) ?_
 refine au ?_
 refine pl_op rfl rfl (opTo_boxN (iC (8, A, K, N)) rfl rfl rfl ?_)
 intro w1 x1 hx1 hs1 hk1 hb1
 have hml := (h.lt _ h.mIn).2.1
 have hmx : x1 ∉ [M.m] := by
  intro hm
  have hm : x1 = (M.at a).o.m := List.mem_singleton.1 hm
  omega
 have h1 := Vx.keep0 h hk1
 refine lB hb1 ?_
 refine aub ?_
 refine oC (mpop_ret h1 (by show 1 ≤ a.stack.length; omega) (by show a.stack.length ≤ 59; omega)) ?_
 rintro r w2 ⟨rfl, h2, hk2⟩
 refine oC (mpop_ret h2 (by show 1 ≤ a.stack.dropLast.length; rw [List.length_dropLast]; omega) (by show a.stack.dropLast.length ≤ 59; rw [List.length_dropLast]; omega)) ?_
 rintro r w3 ⟨rfl, h3, hk3⟩
 have hk13 : Keep [M.m] w1 w3 := hk2.tr hk3
 have hb3 := hk13.blk hb1 hmx
 clear hb1
 refine lB hb3 ?_
 refine oC (mreckon_ret 8 (topS a.stack.dropLast) (topS a.stack) (by decide) w3) ?_
 rintro r w3' ⟨rfl, hww⟩
 rw [hww]
 refine oC (mpush_ret h3 (by show a.stack.dropLast.dropLast.length ≤ 58; simp only [List.length_dropLast]; omega) hc _) ?_
 rintro r w4 ⟨rfl, h4, hk4⟩
 refine au ?_
 exact rn_end Tryz.func211 (.inr (.inl ⟨rfl, rfl⟩)) ⟨rfl, Dn.late hk1 (Dn.ofP (M := M) h4 h.mIn (hk13.tr hk4))⟩
theorem mdo_set (h : Vm Y Z R B w x fp (M.at a)) (h1s : 1 ≤ a.stack.length) (hs : a.stack.length ≤ 24) (hc : a.cells.length ≤ 48) (h0 : 0 ≤ A) (hA : A < (a.cells.length : Int)) :
  Ret Tryz.prog 211 [.pointer (some ⟨x, 0, none⟩), .agg (iC (9, A, K, N)).toArray] w fun r w' => r = .tuple #[] ∧ Dn Y Z R B w w' x fp { M with md := { a with next := a.next + 1, stack := a.stack.dropLast, cells := a.cells.set A.toNat (topS a.stack) } } := by
 refine ret_of 104 Tryz.func211 rfl rfl (by simp) ?_
 refine au ?_
 refine pl_op rfl rfl (opTo_boxN (iC (9, A, K, N)) rfl rfl rfl ?_)
 intro w1 x1 hx1 hs1 hk1 hb1
 have hml := (h.lt _ h.mIn).2.1
 have hmx : x1 ∉ [M.m] := by
  intro hm
  have hm : x1 = (M.at a).o.m := List.mem_singleton.1 hm
  omega
 have h1 := Vx.keep0 h hk1
 refine lB hb1 ?_
 obtain ⟨k, rfl⟩ : ∃ k : Nat, A = (k : Nat) := ⟨A.toNat, by omega⟩
 refine aub ?_
 refine rn_draw (fun w' => Blk w' x1 (iC (9, ((k : Nat) : Int), K, N)) 252) [] hMix ?_
 have hS : Keep [] w1 w1.drew := (Keep.refl _ _).drew
 have h1 := Vx.keep0 h1 hS
 have hb2 := hS.blk hb1 (by simp)
 generalize w1.drew = w2 at *
 refine tk 0 ?_
 refine tk 1 ?_
 refine dr_val 2 (.int .i64 (k : Nat)) rfl (by decide +kernel) rfl rfl (fun w9 hS9 => val_load1 hT rfl rfl rfl (hS9.cell rfl)) hb2 ?_
 refine tk 3 ?_
 refine dC 4 (mpop_ret h1 h1s (by show a.stack.length ≤ 59; omega)) ?_
 rintro r w3 ⟨rfl, h3, hk3⟩
 refine ⟨fun _ => hk3.blk hb2 hmx, ?_⟩
 refine dC 5 (msetCell_ret h3 hc (a := k) (by show k < a.cells.length; omega) (topS a.stack)) ?_
 rintro r w4 ⟨rfl, h4, hk4⟩
 refine ⟨fun _ => hk4.blk (hk3.blk hb2 hmx) hmx, ?_⟩
 refine dr_done (by decide +kernel) ?_
 refine au ?_
 exact rn_end Tryz.func211 (.inr (.inl ⟨rfl, rfl⟩)) ⟨rfl, Dn.late (hk1.tr hS) (Dn.of (M := M) h4 h.mIn (hk3.tr hk4))⟩
theorem mdo_put (h : Vm Y Z R B w x fp (M.at a)) (h2s : 2 ≤ a.stack.length) (hs : a.stack.length ≤ 24) (hc : a.cells.length ≤ 48) (h0 : 0 ≤ A) (hA : A + K ≤ (a.cells.length : Int)) :
  Ret Tryz.prog 211 [.pointer (some ⟨x, 0, none⟩), .agg (iC (10, A, K, N)).toArray] w fun r w' => r = .tuple #[] ∧ Dn Y Z R B w w' x fp { M with md := if 0 ≤ topS a.stack.dropLast ∧ topS a.stack.dropLast < K then { a with next := a.next + 1, stack := a.stack.dropLast.dropLast, cells := a.cells.set (A + topS a.stack.dropLast).toNat (topS a.stack) } else { a with next := a.next + 1, stack := a.stack.dropLast.dropLast, state := 13 } } := by
 refine ret_of 104 Tryz.func211 rfl rfl (by simp) ?_
 refine au ?_
 refine pl_op rfl rfl (opTo_boxN (iC (10, A, K, N)) rfl rfl rfl ?_)
 intro w1 x1 hx1 hs1 hk1 hb1
 have hml := (h.lt _ h.mIn).2.1
 have hmx : x1 ∉ [M.m] := by
  intro hm
  have hm : x1 = (M.at a).o.m := List.mem_singleton.1 hm
  omega
 have h1 := Vx.keep0 h hk1
 refine lB hb1 ?_
 refine aub ?_
 refine pl_val (.agg (iC (10, A, K, N)).toArray) rfl rfl (val_load (iC (10, A, K, N)) hT rfl rfl rfl (hb1.range (by rfl))) ?_
 refine oC (mputCell_ret h1 (10, A, K, N) h2s hs hc h0 hA) ?_
 rintro r w2 ⟨rfl, hk2, h2⟩
 refine au ?_
 exact rn_end Tryz.func211 (.inr (.inl ⟨rfl, rfl⟩)) ⟨rfl, Dn.late hk1 (Dn.of (M := M) h2 h.mIn hk2)⟩
theorem mdo_print (h : Vm Y Z R B w x fp (M.at a)) (h1s : 1 ≤ a.stack.length) (hs : a.stack.length ≤ 24) (ho : a.out ≤ 400000) (hl : M.pr.1.length ≤ 400000) :
  Ret Tryz.prog 211 [.pointer (some ⟨x, 0, none⟩), .agg (iC (11, A, K, N)).toArray] w fun r w' => r = .tuple #[] ∧ Dn Y Z R B w w' x fp { M with md := { a with next := a.next + 1, stack := a.stack.dropLast, out := a.out + 1 }, pr := putP M.pr a.out (topS a.stack) } := by
 refine ret_of 104 Tryz.func211 rfl rfl (by simp) ?_
 refine au ?_
 refine pl_op rfl rfl (opTo_boxN (iC (11, A, K, N)) rfl rfl rfl ?_)
 intro w1 x1 hx1 hs1 hk1 hb1
 have hml := (h.lt _ h.mIn).2.1
 have hmx : x1 ∉ [M.m] := by
  intro hm
  have hm : x1 = (M.at a).o.m := List.mem_singleton.1 hm
  omega
 have h1 := Vx.keep0 h hk1
 refine lB hb1 ?_
 refine aub ?_
 refine oC (mpop_ret h1 h1s (by show a.stack.length ≤ 59; omega)) ?_
 rintro r w2 ⟨rfl, h2, hk2⟩
 refine oC (mprint_ret h2 ho hl (topS a.stack)) ?_
 rintro r w3 ⟨rfl, fp', h3, hk3, hf3⟩
 refine au ?_
 refine rn_end Tryz.func211 (.inr (.inl ⟨rfl, rfl⟩)) ⟨rfl, Dn.late hk1 ⟨fp', Vm.b h3, (hk2.mono fun k hk => .inl ?_).tr hk3, fun k hk => (hf3 k hk).imp id fun h => Nat.le_trans hk2.size h⟩⟩
 rw [List.mem_singleton.1 hk]
 exact h.mIn
theorem mdo_read (h : Vm Y Z R B w x fp (M.at a)) (hr : a.read ≤ 1000000) (hc : a.cells.length ≤ 48) (h0 : 0 ≤ A) (hA : A < (a.cells.length : Int)) :
  Ret Tryz.prog 211 [.pointer (some ⟨x, 0, none⟩), .agg (iC (12, A, K, N)).toArray] w fun r w' => r = .tuple #[] ∧ Dn Y Z R B w w' x fp { M with md := if a.read < M.inp.length then { a with next := a.next + 1, cells := a.cells.set A.toNat (M.inp.getD a.read 0), read := a.read + 1 } else { a with next := a.next + 1, state := 14 } } := by
 refine ret_of 104 Tryz.func211 rfl rfl (by simp) ?_
 refine au ?_
 refine pl_op rfl rfl (opTo_boxN (iC (12, A, K, N)) rfl rfl rfl ?_)
 intro w1 x1 hx1 hs1 hk1 hb1
 have hml := (h.lt _ h.mIn).2.1
 have hmx : x1 ∉ [M.m] := by
  intro hm
  have hm : x1 = (M.at a).o.m := List.mem_singleton.1 hm
  omega
 have h1 := Vx.keep0 h hk1
 refine lB hb1 ?_
 obtain ⟨k, rfl⟩ : ∃ k : Nat, A = (k : Nat) := ⟨A.toNat, by omega⟩
 refine aub ?_
 refine oC (mread_ret h1 hr hc (a := k) (by show k < a.cells.length; omega)) ?_
 rintro r w2 ⟨rfl, hk2, h2⟩
 refine au ?_
 exact rn_end Tryz.func211 (.inr (.inl ⟨rfl, rfl⟩)) ⟨rfl, Dn.late hk1 (Dn.of (M := M) h2 h.mIn hk2)⟩
theorem mdo_else (h : Vm Y Z R B w x fp (M.at a)) (h1s : 1 ≤ a.stack.length) (hs : a.stack.length ≤ 24) (h0 : 0 ≤ A) :
  Ret Tryz.prog 211 [.pointer (some ⟨x, 0, none⟩), .agg (iC (13, A, K, N)).toArray] w fun r w' => r = .tuple #[] ∧ Dn Y Z R B w w' x fp { M with md := { a with next := if topS a.stack = 0 then A.toNat else a.next + 1, stack := a.stack.dropLast } } := by
 refine ret_of 104 Tryz.func211 rfl rfl (by simp) ?_
 refine au ?_
 refine pl_op rfl rfl (opTo_boxN (iC (13, A, K, N)) rfl rfl rfl ?_)
 intro w1 x1 hx1 hs1 hk1 hb1
 have hml := (h.lt _ h.mIn).2.1
 have hmx : x1 ∉ [M.m] := by
  intro hm
  have hm : x1 = (M.at a).o.m := List.mem_singleton.1 hm
  omega
 have h1 := Vx.keep0 h hk1
 refine lB hb1 ?_
 obtain ⟨k, rfl⟩ : ∃ k : Nat, A = (k : Nat) := ⟨A.toNat, by omega⟩
 refine aub ?_
 refine oC (mpop_ret h1 h1s (by show a.stack.length ≤ 59; omega)) ?_
 rintro r w2 ⟨rfl, h2, hk2⟩
 have hb2 := hk2.blk hb1 hmx
 clear hb1
 by_cases ht : topS a.stack = 0
 ·rw [if_pos ht]
  refine ye ?_
  refine lB hb2 ?_
  refine oC (mjump_ret h2 k) ?_
  rintro r w3 ⟨rfl, h3, hk3⟩
  refine au ?_
  exact rn_end Tryz.func211 (.inr (.inl ⟨rfl, rfl⟩)) ⟨rfl, Dn.late hk1 (Dn.of (M := M) h3 h.mIn (hk2.tr hk3))⟩
 ·rw [if_neg ht]
  refine nay ?_
  refine au ?_
  exact rn_end Tryz.func211 (.inr (.inl ⟨rfl, rfl⟩)) ⟨rfl, Dn.late hk1 (Dn.of (M := M) h2 h.mIn hk2)⟩
theorem mdo_jump (h : Vm Y Z R B w x fp (M.at a)) (h0 : 0 ≤ A) :
  Ret Tryz.prog 211 [.pointer (some ⟨x, 0, none⟩), .agg (iC (14, A, K, N)).toArray] w fun r w' => r = .tuple #[] ∧ Dn Y Z R B w w' x fp { M with md := { a with next := A.toNat } } := by
 refine ret_of 104 Tryz.func211 rfl rfl (by simp) ?_
 refine au ?_
 refine pl_op rfl rfl (opTo_boxN (iC (14, A, K, N)) rfl rfl rfl ?_)
 intro w1 x1 hx1 hs1 hk1 hb1
 have hml := (h.lt _ h.mIn).2.1
 have hmx : x1 ∉ [M.m] := by
  intro hm
  have hm : x1 = (M.at a).o.m := List.mem_singleton.1 hm
  omega
 have h1 := Vx.keep0 h hk1
 refine lB hb1 ?_
 obtain ⟨k, rfl⟩ : ∃ k : Nat, A = (k : Nat) := ⟨A.toNat, by omega⟩
 refine aub ?_
 refine oC (mjump_ret h1 k) ?_
 rintro r w2 ⟨rfl, h2, hk2⟩
 refine au ?_
 exact rn_end Tryz.func211 (.inr (.inl ⟨rfl, rfl⟩)) ⟨rfl, Dn.late hk1 (Dn.of (M := M) h2 h.mIn hk2)⟩
theorem mdo_halt (h : Vm Y Z R B w x fp (M.at a))  :
  Ret Tryz.prog 211 [.pointer (some ⟨x, 0, none⟩), .agg (iC (16, A, K, N)).toArray] w fun r w' => r = .tuple #[] ∧ Dn Y Z R B w w' x fp { M with md := { a with next := a.next + 1, state := 1 } } := by
 refine ret_of 104 Tryz.func211 rfl rfl (by simp) ?_
 refine au ?_
 refine pl_op rfl rfl (opTo_boxN (iC (16, A, K, N)) rfl rfl rfl ?_)
 intro w1 x1 hx1 hs1 hk1 hb1
 have hml := (h.lt _ h.mIn).2.1
 have hmx : x1 ∉ [M.m] := by
  intro hm
  have hm : x1 = (M.at a).o.m := List.mem_singleton.1 hm
  omega
 have h1 := Vx.keep0 h hk1
 refine lB hb1 ?_
 refine aub ?_
 refine pl_val _ rfl rfl (val_load1 hT rfl rfl rfl (h1.ptr)) ?_
 refine pl_op rfl rfl (opTo_call (fst := []) (cap := []) rfl rfl rfl rfl (by decide +kernel) ((h1.put (E' := fun W => Ena Z W { a with next := a.next + 1, state := 1 }) 4 1 fun W hl e => by
  rw [show (4 : Int) = ((4 : Nat) : Int) from rfl, putW_at W _ (by decide)]
  exact ena_state e hl rfl).mono ?_))
 rintro r w2 ⟨rfl, h2, hk2⟩
 refine au ?_
 exact rn_end Tryz.func211 (.inr (.inl ⟨rfl, rfl⟩)) ⟨rfl, Dn.late hk1 (Dn.of (M := M) h2 h.mIn hk2)⟩
theorem mdo_commit {Y' : Nat → List Int → Prop} (h : Vm Y Z R B w x fp (M.at a)) (hY : ∀ d S S2 W, Y d S → Ena Z W (M.at a).md → W.length = 112 → allS S2 = W → Y' d S2) (hl : M.left = 0) (ht : M.torn = false) (hg : M.gen < 1000000) :
  Ret Tryz.prog 211 [.pointer (some ⟨x, 0, none⟩), .agg (iC (15, A, K, N)).toArray] w fun r w' => r = .tuple #[] ∧ Dn Y' Z R B w w' x fp { M with md := { a with next := a.next + 1 }, gen := M.gen + 1 } := by
 refine ret_of 104 Tryz.func211 rfl rfl (by simp) ?_
 refine au ?_
 refine pl_op rfl rfl (opTo_boxN (iC (15, A, K, N)) rfl rfl rfl ?_)
 intro w1 x1 hx1 hs1 hk1 hb1
 have hml := (h.lt _ h.mIn).2.1
 have hmx : x1 ∉ [M.m] := by
  intro hm
  have hm : x1 = (M.at a).o.m := List.mem_singleton.1 hm
  omega
 have h1 := Vx.keep0 h hk1
 refine lB hb1 ?_
 refine aub ?_
 refine rn_draw (fun w' => w'.cell? ⟨x, 0, none⟩ = some (.pointer (some ⟨M.m, 0, none⟩))) [11] hMix ?_
 have hS : Keep [] w1 w1.drew := (Keep.refl _ _).drew
 have h1 := Vx.keep0 h1 hS
 generalize w1.drew = w2 at *
 refine tk 0 ?_
 refine tk 1 ?_
 refine tk 2 ?_
 refine tk 3 ?_
 refine dr_val 4 (.pointer (some ⟨M.m, 0, none⟩)) rfl (by decide +kernel) rfl rfl (fun w9 hS9 => val_load1 hT rfl rfl rfl hS9) h1.ptr ?_
 refine tk 5 ?_
 refine dC 6 (mdeeds_all h1 (by show M.left ≤ 0; omega)) ?_
 rintro r w2' ⟨rfl, hww⟩
 rw [hww]
 refine ⟨fun _ => h1.ptr, ?_⟩
 refine dC 7 (h1.sync hg hY) ?_
 rintro r w3 ⟨rfl, fp3, h3, hk3, hf3⟩
 refine ⟨fun _ => h3.ptr, ?_⟩
 refine tk 8 ?_
 refine tk 9 ?_
 refine tk 10 ?_
 obtain ⟨cv, iv, hbk, _, _, _⟩ := h3.bk
 refine dr_op 11 rfl (by decide +kernel) rfl rfl (opTo_storeN [.bool false] rfl rfl rfl rfl size_bo hbk (by simp [maC]) (one_v rfl) ?_)
 intro w4 hs4 hk4 hb4
 refine ⟨fun h => absurd (by simp) h, ?_⟩
 refine dr_done (by decide +kernel) ?_
 have h4 := h3.own (left := M.left) (torn := M.torn) hk4 fun {cv' iv'} hbk' => by
  rw [ht]
  have e := Blk.inj hbk hbk'
  simp only [maC, List.cons.injEq] at e
  rw [← e.2.1, ← e.2.2.1]
  exact hb4
 refine au ?_
 refine rn_end Tryz.func211 (.inr (.inl ⟨rfl, rfl⟩)) ⟨rfl, Dn.late (hk1.tr hS) ⟨fp3, Vx.mono h4 (fun _ _ e => e.b), hk3.trans hk4 fun k hk => .inl ?_, hf3⟩⟩
 rw [List.mem_singleton.1 hk]
 exact h.in
theorem mdo_tear (h : Vm Y Z R B w x fp (M.at a)) (hl0 : 0 < M.left) (hl1 : M.left < 9223372036854775808) (hg : M.gen < 1000000) :
  Ret Tryz.prog 211 [.pointer (some ⟨x, 0, none⟩), .agg (iC (15, A, K, N)).toArray] w fun r w' => r = .tuple #[] ∧ TnD Y (fun W => Ena Z W (M.at a).md) R B w w' fp M.o ∧ Keep fp w w' := by
 refine ret_of 104 Tryz.func211 rfl rfl (by simp) ?_
 refine au ?_
 refine pl_op rfl rfl (opTo_boxN (iC (15, A, K, N)) rfl rfl rfl ?_)
 intro w1 x1 hx1 hs1 hk1 hb1
 have hml := (h.lt _ h.mIn).2.1
 have hmx : x1 ∉ [M.m] := by
  intro hm
  have hm : x1 = (M.at a).o.m := List.mem_singleton.1 hm
  omega
 have h1 := Vx.keep0 h hk1
 refine lB hb1 ?_
 refine aub ?_
 refine rn_draw (fun w' => w'.cell? ⟨x, 0, none⟩ = some (.pointer (some ⟨M.m, 0, none⟩))) [11] hMix ?_
 have hS : Keep [] w1 w1.drew := (Keep.refl _ _).drew
 have h1 := Vx.keep0 h1 hS
 generalize w1.drew = w2 at *
 refine tk 0 ?_
 refine tk 1 ?_
 refine tk 2 ?_
 refine tk 3 ?_
 refine dr_val 4 (.pointer (some ⟨M.m, 0, none⟩)) rfl (by decide +kernel) rfl rfl (fun w9 hS9 => val_load1 hT rfl rfl rfl hS9) h1.ptr ?_
 refine tk 5 ?_
 obtain ⟨d, s, S, W, D, wv, cv, iv, pv, rfl, hv, he, hY⟩ := h1
 have hbk := hv.blk
 refine dC 6 (mdeeds_some hbk hv.st.mem hl0 hl1) ?_
 rintro r w3 ⟨⟨may, rfl, hdn, hde⟩, hk3⟩
 have hb3 := hk3.blk hbk (by simp)
 refine ⟨fun _ => hb3.cell rfl, ?_⟩
 refine dC 7 (sync_ret (hv.st.mem.keep hk3 (by simp)) (hk3.blk hv.st.sto (by simp)) (hv.st.dsk.keep hk3 (by simp)) (by rw [hv.gen]; exact hg) may) ?_
 rintro r w4 ⟨rfl, _, _, hk4, wv4, hd4, hf4⟩
 rw [hde] at hd4
 rw [hdn]
 have hb4 := hk4.blk hb3 fun hm => by
  rcases List.mem_cons.1 hm with h3 | h3
  ·exact Blk.ne hbk hv.st.mem.blk (by decide) h3
  ·exact not_fp hv.st.dsk hbk (by decide) h3
 refine ⟨fun _ => hb4.cell rfl, ?_⟩
 refine tk 8 ?_
 refine tk 9 ?_
 refine tk 10 ?_
 refine dr_op 11 rfl (by decide +kernel) rfl rfl (opTo_storeN [.bool true] rfl rfl rfl rfl size_bo hb4 (by simp [maC]) (one_v rfl) ?_)
 intro w5 hs5 hk5 hb5
 refine ⟨fun h => absurd (by simp) h, ?_⟩
 refine dr_done (by decide +kernel) ?_
 refine au ?_
 have hfm : ∀ k ∈ M.m :: fpD d wv, k ∈ fpV x d s M.m wv M.q pv iv := fun k hk => by
  rcases List.mem_cons.1 hk with h3 | h3
  ·exact mem_fpV.2 (.inr (.inl h3))
  ·exact mem_fpV.2 (.inr (.inr (.inr (.inl h3))))
 have hp4 : Pv R B w4 M.q pv M.pr := (hv.pr.keep hk3 (fun k hm => by cases hm)).keep hk4 fun k hm hq => by
  rcases List.mem_cons.1 hm with h3 | h3
  ·rcases List.mem_cons.1 hq with h5 | h5
   ·exact Blk.ne hv.st.mem.blk hv.pr.blk (by decide) (h3.symm.trans h5)
   ·exact hv.pr.row.ne hv.st.mem.blk (by decide) k h5 (by rw [h3]; simp)
  ·rcases List.mem_cons.1 hq with h5 | h5
   ·rw [h5] at h3
    exact not_fp hv.st.dsk hv.pr.blk (by decide) h3
   ·obtain ⟨L, hL⟩ := hv.pr.row.blk k h5
    exact not_fp hv.st.dsk hL (by decide) h3
 have hp5 : Pv R B w5 M.q pv M.pr := hp4.keep hk5 fun k hm hq => by
  rw [List.mem_singleton.1 hm] at hq
  rcases List.mem_cons.1 hq with h5 | h5
  ·exact Blk.ne hv.blk hv.pr.blk (by decide) h5
  ·exact hv.pr.row.ne hv.blk (by decide) _ h5 (by simp)
 have hd5 := hd4.keep hk5 fun k hm hx => by
  rw [List.mem_singleton.1 hx] at hm
  exact not_fp hd4 hb4 (by decide) hm
 have hk25 : Keep (fpV x d s M.m wv M.q pv iv) w2 w5 := ((hk3.of0.trans hk4 fun k hk => .inl (hfm k hk)).trans hk5 fun k hk => .inl (by rw [List.mem_singleton.1 hk]; exact mem_fpV.2 (.inl rfl)))
 refine rn_end Tryz.func211 (.inr (.inl ⟨rfl, rfl⟩)) ⟨rfl, ⟨d, S, W, D, wv4, pv, he, hY, hv.st.mem.wl, hv.st.good, hv.st.tied, hv.gen, hd5, hp5, fun k hk => ?_, fun k hk => mem_fpV.2 (.inr (.inr (.inr (.inr (.inl hk)))))⟩, (hk1.tr hS).of0.tr hk25⟩
 rcases hf4 k hk with h3 | h3
 ·exact .inl (hfm k (List.mem_cons_of_mem _ h3))
 ·exact .inr (Nat.le_trans (hk1.tr (hS.tr hk3)).size h3)
end
end
section
open Go.Proofs
section
variable {Y : Nat → List Int → Prop} {Z : List Int} {R : Nat → Prop} {B : Nat} {w w' : World} {x : Nat} {fp : List Nat} {M M' : Mx}
theorem Dn.seq {w1 : World} (hm : M.m ∈ fp) (hk : Keep [M.m] w w1) (h : Dn Y Z R B w1 w' x fp M') : Dn Y Z R B w w' x fp M' := by
 obtain ⟨fp', h1, h2, h3⟩ := h
 exact ⟨fp', h1, (hk.mono fun k hk => .inl (by rw [List.mem_singleton.1 hk]; exact hm)).tr h2, fun k hk' => (h3 k hk').imp id fun h => Nat.le_trans hk.size h⟩
theorem mstep_of (h : Vm Y Z R B w x fp M) (hs : M.md.state = 0) {i : Is} (hi : M.L[M.md.next]? = some i) (hL : M.L.length ≤ 1000000) {K : World → Prop}
  (hdo : ∀ w1, Vm Y Z R B w1 x fp (M.at M.md) → Keep [M.m] w w1 → Ret Tryz.prog 211 [.pointer (some ⟨x, 0, none⟩), .agg (iC i).toArray] w1 fun r w' => r = .tuple #[] ∧ K w') :
  Ret Tryz.prog 179 [.pointer (some ⟨x, 0, none⟩)] w fun r w' => r = .bool true ∧ K w' := by
 have hn : M.md.next < M.L.length := (List.getElem?_eq_some_iff.1 hi).1
 have hml := (h.lt _ h.mIn).2.1
 refine ret_of 23 Tryz.func179 rfl rfl (by simp) ?_
 refine oC (goes_ret h) ?_
 rintro r w0 ⟨rfl, hww⟩
 rw [hww, hs]
 refine oC (mcnext_ret h hi) ?_
 rintro r w1 ⟨rfl, hk1⟩
 refine pl_op rfl rfl (opTo_allocN _ rfl zero_mis ?_)
 intro w2 x2 hx2 hs2 hk2 hb2
 refine pl_op rfl rfl (opTo_storeN (iC i) rfl rfl rfl rfl size_mis hb2 (by simp [iC]) (iC_one _) ?_)
 intro w3 hs3 hk3 hb3
 rw [splice_whole (by rfl)] at hb3
 have hk03 : Keep [] w w3 := (hk1.tr hk2).trB hk3 (by have := hk1.size; omega)
 have hmx : x2 ∉ [M.m] := by
  intro hm
  have hm : x2 = M.o.m := List.mem_singleton.1 hm
  have := hk1.size
  omega
 have h3 := Vx.keep0 h hk03
 refine au ?_
 refine rn_draw (fun w' => w'.cell? ⟨x, 0, none⟩ = some (.pointer (some ⟨M.m, 0, none⟩))) [] hMix ?_
 have hS : Keep [] w3 w3.drew := (Keep.refl _ _).drew
 have h4 := Vx.keep0 h3 hS
 have hb4 := hS.blk hb3 (by simp)
 generalize w3.drew = w4 at *
 refine tk 0 ?_
 refine tk 1 ?_
 refine tk 2 ?_
 refine dr_val 3 (.pointer (some ⟨M.m, 0, none⟩)) rfl (by decide +kernel) rfl rfl (fun w9 hS9 => val_load1 hT rfl rfl rfl hS9) h4.ptr ?_
 refine tk 4 ?_
 refine tk 5 ?_
 refine tk 6 ?_
 refine dr_val 7 (.pointer (some ⟨M.m, 0, none⟩)) rfl (by decide +kernel) rfl rfl (fun w9 hS9 => val_load1 hT rfl rfl rfl hS9) h4.ptr ?_
 refine dC 8 (h4.load 0 (M.md.next : Nat) fun W hl e => loadW_at e.next (by decide)) ?_
 rintro r w4' ⟨rfl, hww⟩
 rw [hww]
 refine ⟨fun _ => h4.ptr, ?_⟩
 refine dr_num 9 (((M.md.next + 1 : Nat) : Int)) rfl (by decide +kernel) rfl rfl rfl rfl rfl (by simp only [ariP]; omega) ?_
 refine dr_op 10 rfl (by decide +kernel) rfl rfl (opTo_call (fst := []) (cap := []) rfl rfl rfl rfl (by decide +kernel) ((h4.put (E' := fun W => Ena Z W { M.md with next := M.md.next + 1 }) 0 ((M.md.next + 1 : Nat) : Int) fun W hl e => by
  rw [show (0 : Int) = ((0 : Nat) : Int) from rfl, putW_at W _ (by decide)]
  exact ena_next e hl _).mono ?_))
 rintro r w5 ⟨rfl, h5, hk5⟩
 refine ⟨fun _ => h5.ptr, ?_⟩
 refine dr_done (by decide +kernel) ?_
 have hb5 := hk5.blk hb4 hmx
 refine au ?_
 refine pl_val (.agg (iC i).toArray) rfl rfl (val_load (iC i) hT rfl rfl rfl (hb5.range (by rfl))) ?_
 refine oC (hdo w5 h5 ((hk03.tr hS).of0.tr hk5)) ?_
 rintro r w6 ⟨rfl, hK⟩
 refine au ?_
 exact rn_ret Tryz.func179 (.inl ⟨_, rfl, rfl⟩) ⟨rfl, hK⟩
theorem mstep_off (h : Vm Y Z R B w x fp M) (hs : M.md.state ≠ 0) : Ret Tryz.prog 179 [.pointer (some ⟨x, 0, none⟩)] w fun r w' => r = .bool false ∧ Keep [] w w' := by
 refine ret_of 23 Tryz.func179 rfl rfl (by simp) ?_
 refine oC (goes_ret h) ?_
 rintro r w0 ⟨rfl, hww⟩
 rw [hww, show decide (M.md.state = 0) = false by simp [hs]]
 refine au ?_
 exact rn_ret Tryz.func179 (.inl ⟨_, rfl, rfl⟩) ⟨rfl, Keep.refl _ _⟩
theorem mexI_get (inp : List Int) (A K N : Int) (a : Md) (p : Pr) : exI inp (3, A, K, N) a p = (if 0 ≤ topS a.stack ∧ topS a.stack < K then { a with next := a.next + 1, stack := a.stack.dropLast ++ [cellAt a.cells (A + topS a.stack)] } else { a with next := a.next + 1, stack := a.stack.dropLast, state := 13 }, p) := by
 have e : exI inp (3, A, K, N) a p = (if 0 ≤ topS a.stack ∧ topS a.stack < K then ({ a with next := a.next + 1, stack := a.stack.dropLast ++ [cellAt a.cells (A + topS a.stack)] }, p) else ({ a with next := a.next + 1, stack := a.stack.dropLast, state := 13 }, p)) := rfl
 rw [e]
 split <;> rfl
theorem mexI_put (inp : List Int) (A K N : Int) (a : Md) (p : Pr) : exI inp (10, A, K, N) a p = (if 0 ≤ topS a.stack.dropLast ∧ topS a.stack.dropLast < K then { a with next := a.next + 1, stack := a.stack.dropLast.dropLast, cells := a.cells.set (A + topS a.stack.dropLast).toNat (topS a.stack) } else { a with next := a.next + 1, stack := a.stack.dropLast.dropLast, state := 13 }, p) := by
 have e : exI inp (10, A, K, N) a p = (if 0 ≤ topS a.stack.dropLast ∧ topS a.stack.dropLast < K then ({ a with next := a.next + 1, stack := a.stack.dropLast.dropLast, cells := a.cells.set (A + topS a.stack.dropLast).toNat (topS a.stack) }, p) else ({ a with next := a.next + 1, stack := a.stack.dropLast.dropLast, state := 13 }, p)) := rfl
 rw [e]
 split <;> rfl
theorem mexI_read (inp : List Int) (A K N : Int) (a : Md) (p : Pr) : exI inp (12, A, K, N) a p = (if a.read < inp.length then { a with next := a.next + 1, cells := a.cells.set A.toNat (inp.getD a.read 0), read := a.read + 1 } else { a with next := a.next + 1, state := 14 }, p) := by
 have e : exI inp (12, A, K, N) a p = (if a.read < inp.length then ({ a with next := a.next + 1, cells := a.cells.set A.toNat (inp.getD a.read 0), read := a.read + 1 }, p) else ({ a with next := a.next + 1, state := 14 }, p)) := rfl
 rw [e]
 split <;> rfl
theorem Vx.y {O : Mo} {E : List Int → Prop} {Y' : Nat → List Int → Prop} (h : Vx Y R B w x fp O E) (hy : ∀ d S, Y d S → Y' d S) : Vx Y' R B w x fp O E := by
 obtain ⟨d, s, S, W, D, wv, cv, iv, pv, rfl, h, e, y⟩ := h
 exact ⟨d, s, S, W, D, wv, cv, iv, pv, rfl, h, e, hy d S y⟩
theorem mstep_ret {c i : Nat} {Q : List Is} {Y' : Nat → List Int → Prop} (h : Vm Y Z R B w x fp M) (ho : Wo c Q M i) (hi : i ≤ 400000) (hs : M.md.state = 0) (hl : comB M.L M.md = true → M.left = 0 ∧ M.torn = false)
  (hYc : comB M.L M.md = true → ∀ d S S2 W, Y d S → Ena Z W (M.at M.md).md → W.length = 112 → allS S2 = W → Y' d S2) (hYn : comB M.L M.md = false → ∀ d S, Y d S → Y' d S) :
  Ret Tryz.prog 179 [.pointer (some ⟨x, 0, none⟩)] w fun r w' => r = .bool true ∧ ∃ fp', Vp Y' Z R B w' x fp' (M.go (if comB M.L M.md then M.gen + 1 else M.gen)) ∧ Keep fp w w' ∧ ∀ k ∈ fp', k ∈ fp ∨ w.heap.size ≤ k := by
 have hn := ho.fit.next hs
 have hsim := ho.fit.sim hs
 have hst := hsim.le (by decide)
 have hcc := ho.fit.cells
 have hc48 := ho.c48
 have hc : M.md.cells.length ≤ 48 := by omega
 have hlen := ho.prg.len
 have hou := ho.fit.out
 have hol := ho.out
 have hrd := ho.read
 have hg0 := ho.gen0
 have hgn := ho.gen
 have hL : M.L.length ≤ 1000000 := by rw [ho.code]; simp; omega
 obtain ⟨y, hy, hfx⟩ := at_halt ho.prg.sim hn hsim
 rw [← ho.code] at hy
 have hgd : M.L.getD M.md.next (0, 0, 0, 0) = y := by rw [List.getD_eq_getElem?_getD, hy]; rfl
 have hgo : ∀ g, M.go g = { M with md := (exI M.inp y M.md M.pr).1, pr := (exI M.inp y M.md M.pr).2, gen := g } := fun g => by
  unfold Mx.go stB
  rw [if_pos hs, hgd]
 have hcb : comB M.L M.md = decide (y.1 = 15) := by
  unfold comB
  rw [hgd, hs]
  simp
 have fin : ∀ {w1 w' : World} {r : Value}, Keep [M.m] w w1 → Dn Y' Z R B w1 w' x fp (M.go (if comB M.L M.md then M.gen + 1 else M.gen)) → ∃ fp', Vp Y' Z R B w' x fp' (M.go (if comB M.L M.md then M.gen + 1 else M.gen)) ∧ Keep fp w w' ∧ ∀ k ∈ fp', k ∈ fp ∨ w.heap.size ≤ k := fun {w1 w' r} hk hd => Dn.seq h.mIn hk hd
 have same : ∀ {w1 w' : World} {r : Value}, comB M.L M.md = false → Keep [M.m] w w1 → r = .tuple #[] ∧ Dn Y Z R B w1 w' x fp (M.go M.gen) → r = .tuple #[] ∧ ∃ fp', Vp Y' Z R B w' x fp' (M.go (if comB M.L M.md then M.gen + 1 else M.gen)) ∧ Keep fp w w' ∧ ∀ k ∈ fp', k ∈ fp ∨ w.heap.size ≤ k := fun {w1 w' r} hc0 hk hd => ⟨hd.1, fin (r := r) hk (by
  rw [hc0, if_neg (by decide)]
  obtain ⟨fp', h2, h3⟩ := hd.2
  exact ⟨fp', Vx.y h2 (hYn hc0), h3⟩)⟩
 refine mstep_of h hs hy hL fun w1 h1 hk1 => ?_
 rcases hfx with ⟨hlt, hxQ, hok, _⟩ | ⟨hlt, rfl, hk0⟩
 ·have hops := ho.prg.ops y (List.mem_of_getElem? hxQ)
  have hjm := ho.prg.jmp y (List.mem_of_getElem? hxQ)
  obtain ⟨op, A, K, N⟩ := y
  obtain ⟨f1, f2, f3, f4, f5, f6⟩ := hok
  simp only at f1 f2 f3 f4 f5 f6 hops
  obtain ⟨n1, n2, n3, n4, n5, n6⟩ := popI_num op
  have hA : op = 13 ∨ op = 14 → 0 ≤ A := fun hj => by
   obtain ⟨kk, h1, _⟩ := hjm hj
   simp only at h1
   omega
  clear hjm
  have hcase : op = 1 ∨ op = 2 ∨ op = 3 ∨ op = 4 ∨ op = 5 ∨ op = 6 ∨ op = 7 ∨ op = 8 ∨ op = 9 ∨ op = 10 ∨ op = 11 ∨ op = 12 ∨ op = 13 ∨ op = 14 ∨ op = 15 := by omega
  rcases hcase with rfl | rfl | rfl | rfl | rfl | rfl | rfl | rfl | rfl | rfl | rfl | rfl | rfl | rfl | rfl
  ·refine (mdo_num h1 hst hc).mono fun r w' hd => same (hcb.trans (by rfl)) hk1 ?_
   rw [hgo]; exact hd
  ·obtain ⟨g1, g2⟩ := f5 (.inl rfl)
   refine (mdo_var h1 hst hc g1 (by omega)).mono fun r w' hd => same (hcb.trans (by rfl)) hk1 ?_
   rw [hgo]; exact hd
  ·obtain ⟨g1, g2, g3⟩ := f6 (.inl rfl)
   have := n2 rfl
   refine (mdo_get h1 (by omega) hst hc g1 (by omega)).mono fun r w' hd => same (hcb.trans (by rfl)) hk1 ?_
   rw [hgo, mexI_get]; exact hd
  ·have := n3 (by omega)
   refine (mdo_add h1 (by omega) hst hc).mono fun r w' hd => same (hcb.trans (by rfl)) hk1 ?_
   rw [hgo]; exact hd
  ·have := n3 (by omega)
   refine (mdo_sub h1 (by omega) hst hc).mono fun r w' hd => same (hcb.trans (by rfl)) hk1 ?_
   rw [hgo]; exact hd
  ·have := n3 (by omega)
   refine (mdo_mul h1 (by omega) hst hc).mono fun r w' hd => same (hcb.trans (by rfl)) hk1 ?_
   rw [hgo]; exact hd
  ·have := n3 (by omega)
   refine (mdo_less h1 (by omega) hst hc).mono fun r w' hd => same (hcb.trans (by rfl)) hk1 ?_
   rw [hgo]; exact hd
  ·have := n3 (by omega)
   refine (mdo_same h1 (by omega) hst hc).mono fun r w' hd => same (hcb.trans (by rfl)) hk1 ?_
   rw [hgo]; exact hd
  ·obtain ⟨g1, g2⟩ := f5 (.inr (.inl rfl))
   have := n4 (by omega)
   refine (mdo_set h1 (by omega) hst hc g1 (by omega)).mono fun r w' hd => same (hcb.trans (by rfl)) hk1 ?_
   rw [hgo]; exact hd
  ·obtain ⟨g1, g2, g3⟩ := f6 (.inr rfl)
   have := n5 rfl
   refine (mdo_put h1 (by omega) hst hc g1 (by omega)).mono fun r w' hd => same (hcb.trans (by rfl)) hk1 ?_
   rw [hgo, mexI_put]; exact hd
  ·have := n4 (by omega)
   refine (mdo_print h1 (by omega) hst (by omega) (by omega)).mono fun r w' hd => same (hcb.trans (by rfl)) hk1 ?_
   rw [hgo]; exact hd
  ·obtain ⟨g1, g2⟩ := f5 (.inr (.inr rfl))
   refine (mdo_read h1 (by omega) hc g1 (by omega)).mono fun r w' hd => same (hcb.trans (by rfl)) hk1 ?_
   rw [hgo, mexI_read]; exact hd
  ·have := n4 (by omega)
   refine (mdo_else h1 (by omega) hst (hA (.inl rfl))).mono fun r w' hd => same (hcb.trans (by rfl)) hk1 ?_
   rw [hgo]; exact hd
  ·refine (mdo_jump h1 (hA (.inr rfl))).mono fun r w' hd => same (hcb.trans (by rfl)) hk1 ?_
   rw [hgo]; exact hd
  ·have hcm : comB M.L M.md = true := hcb.trans (by rfl)
   obtain ⟨l0, l1⟩ := hl hcm
   refine (mdo_commit h1 (hYc hcm) l0 l1 (by omega)).mono fun r w' hd => ⟨hd.1, fin (r := r) hk1 ?_⟩
   rw [hcm, if_pos rfl, hgo]; exact hd.2
 ·refine (mdo_halt (A := 0) (K := 0) (N := 0) h1).mono fun r w' hd => same (hcb.trans (by rfl)) hk1 ?_
  rw [hgo]; exact hd
theorem mtears_ret {c i : Nat} {Q : List Is} (h : Vm Y Z R B w x fp M) (ho : Wo c Q M i) (hi : i ≤ 400000) (hcm : comB M.L M.md = true) (hl0 : 0 < M.left) (hl1 : M.left < 9223372036854775808) :
  Ret Tryz.prog 179 [.pointer (some ⟨x, 0, none⟩)] w fun r w' => r = .bool true ∧ TnD Y (fun W => Ena Z W (M.at M.md).md) R B w w' fp M.o ∧ Keep fp w w' := by
 unfold comB at hcm
 simp only [Bool.and_eq_true, decide_eq_true_eq] at hcm
 obtain ⟨hs, h15⟩ := hcm
 have hn := ho.fit.next hs
 have hlen := ho.prg.len
 have hgn := ho.gen
 have hL : M.L.length ≤ 1000000 := by rw [ho.code]; simp; omega
 have hnl : M.md.next < M.L.length := by rw [ho.code]; simp; omega
 obtain ⟨y, hye⟩ : ∃ y, y = M.L[M.md.next] := ⟨_, rfl⟩
 have hy : M.L[M.md.next]? = some y := by rw [List.getElem?_eq_getElem hnl, hye]
 have hgd : M.L.getD M.md.next (0, 0, 0, 0) = y := by rw [List.getD_eq_getElem?_getD, hy]; rfl
 rw [hgd] at h15
 obtain ⟨op, A, K, N⟩ := y
 simp only at h15
 subst h15
 refine mstep_of h hs hy hL fun w1 h1 hk1 => ?_
 refine (mdo_tear h1 hl0 hl1 (by omega)).mono ?_
 rintro r w' ⟨rfl, ⟨d, S, W, D, wv, pv, t1, t2, t3, t4, t5, t6, t7, t8, t9, t10⟩, hk2⟩
 exact ⟨rfl, ⟨d, S, W, D, wv, pv, t1, t2, t3, t4, t5, t6, t7, t8, fun k hk => (t9 k hk).imp id fun h => Nat.le_trans hk1.size h, t10⟩, (hk1.mono fun k hk => .inl (by rw [List.mem_singleton.1 hk]; exact h.mIn)).tr hk2⟩
theorem size_it : sizeOk Tryz.prog 3 1 = true := by kernel_rfl
theorem mtear_ret (h : Vm Y Z R B w x fp M) (n : Int) : Ret Tryz.prog 181 [.pointer (some ⟨x, 0, none⟩), .int .i64 n] w fun r w' => r = .tuple #[] ∧ Vm Y Z R B w' x fp { M with left := n } ∧ Keep fp w w' := by
 obtain ⟨cv, iv, hbk, _, _, _⟩ := h.bk
 refine ret_of 8 Tryz.func181 rfl rfl (by simp) ?_
 refine au ?_
 refine pl_op rfl rfl (opTo_storeN [.int .i64 n] rfl rfl rfl rfl size_it hbk (by simp [maC]) (one_v rfl) ?_)
 intro w1 hs1 hk1 hb1
 have h2 := Vx.own (left := n) (torn := M.torn) h hk1 fun {cv' iv'} hbk' => by
  have e := Blk.inj hbk hbk'
  simp only [maC, List.cons.injEq] at e
  rw [← e.2.1, ← e.2.2.1]
  exact hb1
 refine au ?_
 exact rn_end Tryz.func181 (.inr (.inl ⟨rfl, rfl⟩)) ⟨rfl, h2, hk1.mono fun k hk => .inl (by rw [List.mem_singleton.1 hk]; exact h.in)⟩
theorem mcommits_ret {c i : Nat} {Q : List Is} (h : Vm Y Z R B w x fp M) (ho : Wo c Q M i) : Ret Tryz.prog 180 [.pointer (some ⟨x, 0, none⟩)] w fun r w' => r = .bool (comB M.L M.md) ∧ Keep [] w w' := by
 refine ret_of 11 Tryz.func180 rfl rfl (by simp) ?_
 unfold comB
 refine oC (goes_ret h) ?_
 rintro r w0 ⟨rfl, hww⟩
 rw [hww]
 by_cases hs : M.md.state = 0
 ·have hn := ho.fit.next hs
  have hnl : M.md.next < M.L.length := by rw [ho.code]; simp; omega
  obtain ⟨y, hye⟩ : ∃ y, y = M.L[M.md.next] := ⟨_, rfl⟩
  have hy : M.L[M.md.next]? = some y := by rw [List.getElem?_eq_getElem hnl, hye]
  have hgd : M.L.getD M.md.next (0, 0, 0, 0) = y := by rw [List.getD_eq_getElem?_getD, hy]; rfl
  rw [hgd, show decide (M.md.state = 0) = true by simp [hs]]
  refine oC (mcnext_ret h hy) ?_
  rintro r w1 ⟨rfl, hk1⟩
  refine pl_val (.int .i64 y.1) rfl rfl (val_field1 0 (iC y) rfl rfl (by decide +kernel) rfl w1) ?_
  by_cases h15 : y.1 = 15
  ·refine ye ?_
   refine au ?_
   exact rn_ret Tryz.func180 (.inl ⟨_, rfl, rfl⟩) ⟨by simp [h15], hk1⟩
  ·refine nay ?_
   refine au ?_
   exact rn_ret Tryz.func180 (.inl ⟨_, rfl, rfl⟩) ⟨by simp [h15], hk1⟩
 ·rw [show decide (M.md.state = 0) = false by simp [hs]]
  refine au ?_
  exact rn_ret Tryz.func180 (.inl ⟨_, rfl, rfl⟩) ⟨by simp, Keep.refl _ _⟩
theorem built_ma (m q : Nat) (ca ia : Option Addr) (cn cc i1 ic : Nat) : Tryz.prog.built tMa [(0, .pointer (some ⟨m, 0, none⟩)), (1, .slice ca cn cc), (2, .slice ia i1 ic), (3, .pointer (some ⟨q, 0, none⟩))] = some (maC m (.slice ca cn cc) (.slice ia i1 ic) q 0 false).toArray := by kernel_rfl
theorem mnew_m {d s m q : Nat} {S W : List Int} {D : List Bool} {wv cv iv : Value} {fq : List Nat} {p : Pr} {md : Md} {L : List Is} {inp : List Int} (hst : St B w d s m S W D wv) (hs : B ≤ s) (hnr : ∀ k ∈ fpM d s m wv, ¬ R k) (he : Ena Z W md) (hY : Y d S) (hp : PVm R B w q fq p) (hc : InsV R w cv L) (hi : LsR R w iv inp) (hro : ∀ k, R k → k < w.heap.size) (hil : inp.length ≤ 1000000) :
  Ret Tryz.prog 173 [.pointer (some ⟨m, 0, none⟩), cv, iv, .pointer (some ⟨q, 0, none⟩)] w fun r w' => ∃ x fp, r = .pointer (some ⟨x, 0, none⟩) ∧ Vm Y Z R B w' x fp ⟨L, inp, m, q, md, p, 0, false, genS S⟩ ∧ Keep [] w w' ∧ ∀ k ∈ fp, k ∈ fpM d s m wv ∨ k ∈ fq ∨ w.heap.size ≤ k := by
 obtain ⟨ia, icap, rfl, hi2⟩ := hi
 obtain ⟨ca, ccap, hcv⟩ := hc.form
 subst hcv
 obtain ⟨pv, rfl, hp⟩ := hp
 have hlies : LsV w (.slice ia inp.length icap) inp := ⟨ia, icap, rfl, fun h0 => by
  obtain ⟨b, q, e, hR, hr⟩ := hi2 h0
  exact ⟨b, q, e, hro b hR, hr⟩⟩
 have hBw : B ≤ w.heap.size := Nat.le_trans hst.hm (Nat.le_of_lt hst.mem.blk.lt)
 refine ret_of 20 Tryz.func173 rfl rfl (by simp) ?_
 refine au ?_
 refine pl_val (.bool false) rfl rfl (val_eqNil (by decide +kernel) rfl rfl w) ?_
 refine oC (cloneL_ret hlies hil) ?_
 rintro r w1 ⟨hr, hk1⟩
 obtain ⟨ra, rcap, rfl⟩ := hr.form
 refine au ?_
 refine pl_val _ rfl rfl (val_build _ rfl rfl (built_ma m q ca ra L.length ccap inp.length rcap) w1) ?_
 refine pl_op rfl rfl (opTo_boxN (maC m (.slice ca L.length ccap) (.slice ra inp.length rcap) q 0 false) rfl rfl rfl ?_)
 intro w2 x hx hs2 hk2 hb2
 have hk := hk1.tr hk2
 refine au ?_
 have hrl : ∀ k ∈ obs (.slice ra inp.length rcap), w.heap.size ≤ k := fun k hk => (hr.lt k hk).1
 refine rn_ret Tryz.func173 (.inl ⟨_, rfl, rfl⟩) ⟨x, _, rfl, ⟨d, s, S, W, D, wv, .slice ca L.length ccap, .slice ra inp.length rcap, pv, rfl, ⟨hst.keep0 hk, hs, rfl, hp.keep0 hk, hb2, hc.keep hk fun c hR => ⟨hro c hR, by simp⟩, (hr.low hBw).keep hk2 (fun _ _ => by simp), by have := hk1.size; omega, ?_, ?_⟩, he, hY⟩, hk, ?_⟩
 ·intro k hk hm
  have := (hp.lt k (by simp [hk])).2.1
  have := hrl k hm
  omega
 ·intro k hk hR
  have hlt := hro k hR
  have := hk1.size
  rcases mem_fpV.1 hk with h1 | h1 | h1 | h1 | h1 | h1
  ·omega
  ·exact hnr k (by simp only [fpM, List.mem_cons]; exact .inl h1) hR
  ·exact hnr k (by simp only [fpM, List.mem_cons]; exact .inr (.inl h1)) hR
  ·exact hnr k (by simp only [fpM, List.mem_cons]; exact .inr (.inr h1)) hR
  ·exact hp.nr k h1 hR
  ·have := hrl k h1
   omega
 ·intro k hk
  have := hk1.size
  rcases mem_fpV.1 hk with h1 | h1 | h1 | h1 | h1 | h1
  ·exact .inr (.inr (by omega))
  ·exact .inl (by simp only [fpM, List.mem_cons]; exact .inl h1)
  ·exact .inl (by simp only [fpM, List.mem_cons]; exact .inr (.inl h1))
  ·exact .inl (by simp only [fpM, List.mem_cons]; exact .inr (.inr h1))
  ·exact .inr (.inl h1)
  ·exact .inr (.inr (hrl k h1))
end
end
end E
end Go.Proofs.YtoigoojdbpbhoagGreatDoor
