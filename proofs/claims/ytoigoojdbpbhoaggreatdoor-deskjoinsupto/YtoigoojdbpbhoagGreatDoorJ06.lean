/- Texts DiskE Sect StoA StoB StoC StoD StoE StoF StoG StoH StoI StoM. -/
import Derived.Test.YtoigoojdbpbhoagGreatDoorJ05
import Derived.Test.YtoigoojdbpbhoagGreatDoorJ00
namespace Go.Proofs.YtoigoojdbpbhoagGreatDoor
set_option maxRecDepth 20000
set_option maxHeartbeats 4000000
namespace E
section
open Go.Proofs
def upd (S : List Int) (p : Wr) : List Int := S.take (p.1 * 8) ++ p.2 ++ S.drop (p.1 * 8 + 8)
theorem upd_length {S : List Int} {p : Wr} (hS : S.length = 272) (hp : p.1 < 34 ∧ p.2.length = 8) : (upd S p).length = 272 := by
 simp [upd, hS, hp.2]; omega
def stl (stays : Nat → Bool) (L : List Wr) (j : Nat) (S : List Int) : List Int := ((L.take j).zipIdx).foldl (fun S q => if stays q.2 then upd S q.1 else S) S
theorem stl_zero (stays : Nat → Bool) (L : List Wr) (S : List Int) : stl stays L 0 S = S := by simp [stl]
theorem stl_succ (stays : Nat → Bool) {L : List Wr} {j : Nat} {p : Wr} (hp : L[j]? = some p) (S : List Int) : stl stays L (j + 1) S = if stays j then upd (stl stays L j S) p else stl stays L j S := by
 have hlt : j < L.length := (List.getElem?_eq_some_iff.1 hp).1
 have hj : L[j] = p := (List.getElem?_eq_some_iff.1 hp).2
 unfold stl
 rw [List.take_succ_eq_append_getElem hlt, List.zipIdx_append, List.foldl_append, hj]
 simp [Nat.min_eq_left (Nat.le_of_lt hlt)]
theorem stl_length {stays : Nat → Bool} {L : List Wr} (hL : ∀ p ∈ L, p.1 < 34 ∧ p.2.length = 8) {S : List Int} (hS : S.length = 272) : ∀ j, j ≤ L.length → (stl stays L j S).length = 272
 | 0, _ => by rw [stl_zero, hS]
 | j + 1, h => by
  have hp : L[j]? = some L[j] := List.getElem?_eq_getElem h
  rw [stl_succ stays hp]
  split
  ·exact upd_length (stl_length hL hS j (by omega)) (hL _ (List.getElem_mem h))
  ·exact stl_length hL hS j (by omega)
def settled (stays : Nat → Bool) (L : List Wr) (S : List Int) : List Int := stl stays L L.length S
theorem splice_upd {S : List Int} (hS : S.length = 272) (u : Value) {p : Wr} (hp : p.1 < 34 ∧ p.2.length = 8) : splice (ints S ++ [u]) (0 + p.1 * 8) (ints p.2) = ints (upd S p) ++ [u] := by
 have e1 : (ints S ++ [u]).take (0 + p.1 * 8) = ints (S.take (p.1 * 8)) := by
  rw [Nat.zero_add, List.take_append_of_le_length (by rw [ints_length]; omega)]
  simp [ints, List.map_take]
 have e2 : (ints S ++ [u]).drop (0 + p.1 * 8 + (ints p.2).length) = ints (S.drop (p.1 * 8 + 8)) ++ [u] := by
  rw [Nat.zero_add, ints_length, hp.2, List.drop_append_of_le_length (by rw [ints_length]; omega)]
  simp [ints, List.map_drop]
 rw [splice, e1, e2, upd]
 simp [ints]
theorem settle_ret {B : Nat} {w : World} {d : Nat} {S : List Int} {L : List Wr} {wv : Value} (h : DiskV B w d S L wv) (hL : L.length < 1000000) (stays : Nat → Bool) (g : Nat) (cap : List Value) (hg : callable Tryz.prog g = true)
  (hclo : ∀ i, i < L.length → ∀ w1, Keep [d] w w1 → Ret Tryz.prog g (.int .i64 (i : Nat) :: cap) w1 fun v w' => v = .bool (stays i) ∧ Keep [] w1 w') :
  Ret Tryz.prog 212 [.pointer (some ⟨d, 0, none⟩), .func (.func g) #[] cap.toArray] w fun v w' =>
   v = .tuple #[] ∧ DiskV B w' d (settled stays L S) [] (.slice none 0 0) ∧ Keep [d] w w' := by
 refine ret_of 31 Tryz.func212 rfl rfl (by simp) ?_
 refine au ?_
 refine pl_val wv rfl rfl (val_load1 hT rfl rfl rfl (h.blk.cell (by simp [h.len, ints_length]))) ?_
 have hv : ∃ a cap, wv = .slice a L.length cap := by
  rcases h.owns.2 with ⟨h1, h2⟩ | ⟨g, cap, cur, h1, _⟩
  ·exact ⟨none, 0, by rw [h1, h2]⟩
  ·exact ⟨_, cap, h1⟩
 obtain ⟨wa, wcap, hwv⟩ := hv
 refine pl_val (.int .i64 L.length) rfl rfl (val_pure hT (by subst hwv; rfl) w) ?_
 refine au ?_
 refine rn_ind (fun m σ w' => ∃ j, m = L.length - j ∧ j ≤ L.length ∧ σ = [(0, .pointer (some ⟨d, 0, none⟩)), (1, .func (.func g) #[] cap.toArray), (9, wv), (10, .int .i64 L.length), (11, .int .i64 (j : Nat))] ∧ DiskV B w' d (stl stays L j S) L wv ∧ Keep [d] w w')
  (L.length - 0) _ ?_ ⟨0, rfl, Nat.zero_le _, rfl, by rw [stl_zero]; exact h, Keep.refl _ _⟩ ?_
 ·exact ⟨rfl, rfl, rfl, rfl, rfl, trivial⟩
 rintro m σ w2 ih ⟨j, hm, hj, rfl, h2, hk2⟩
 refine au ?_
 rcases Nat.lt_or_ge j L.length with hlt | hge
 ·refine pl_val (.bool true) rfl rfl (val_int .i64 _ _ _ rfl rfl rfl (by simp [intOp, hlt]) w2) ?_
  refine au ?_
  obtain ⟨p, hp⟩ : ∃ p, L[j]? = some p := ⟨L[j], List.getElem?_eq_getElem hlt⟩
  obtain ⟨gb, gcap, hgv, hrange⟩ := h2.at hp
  have hpm : p ∈ L := List.mem_of_getElem? hp
  have hpw := h.wf p hpm
  refine pl_val _ rfl rfl (val_index j hT rfl (by rw [hgv]; rfl) rfl rfl rfl hlt w2) ?_
  refine pl_val (.agg (wcell p).toArray) rfl rfl (val_load _ hT rfl rfl (by rw [wcell_length hpw.2]; rfl) hrange) ?_
  refine pl_op rfl rfl (opTo_alloc _ rfl zero_write ?_)
  have hk3 : Keep [] w2 (w2.alloc (.cells (wcell (0, List.replicate 8 0)).toArray 320)) := (Keep.refl _ _).alloc _
  have hx3 : Blk (w2.alloc (.cells (wcell (0, List.replicate 8 0)).toArray 320)) w2.heap.size (wcell (0, List.replicate 8 0)) 320 := Blk.new _ _ _
  generalize (w2.alloc (.cells (wcell (0, List.replicate 8 0)).toArray 320)) = w3 at *
  refine au ?_
  refine pl_op rfl rfl (opTo_store _ rfl rfl rfl rfl (by rw [wcell_length hpw.2]; decide +kernel) hx3 (by rw [wcell_length hpw.2]; decide) (wcell_one _) ?_)
  rw [splice_all (by rw [wcell_length hpw.2]; rfl)]
  have hk4 : Keep [] w2 (w3.setRow w2.heap.size (wcell p).toArray) := hk3.setRow _ _ (.inr (Nat.le_refl _))
  have hx4 := hx3.set (wcell p)
  generalize (w3.setRow w2.heap.size (wcell p).toArray) = w4 at *
  refine au ?_
  refine pl_op rfl rfl (opTo_call rfl rfl rfl rfl hg ((hclo j hlt w4 (hk2.tr0 hk4)).mono ?_))
  rintro v w5 ⟨rfl, hk5⟩
  have hk25 : Keep [] w2 w5 := hk4.tr0 hk5
  have h5 := h2.keep hk25 (by simp)
  have hx5 := hk5.blk hx4 (by simp)
  have hnd : w2.heap.size ≠ d := by have := h2.blk.lt; omega
  cases hs : stays j with
  | false =>
   refine au ?_
   refine pl_val (.int .i64 ((j + 1 : Nat) : Int)) rfl rfl (val_int .i64 j 1 _ rfl rfl rfl (by simp only [intOp]; rw [wrap_i64 (by omega) (by omega)]; rfl) w5) ?_
   refine au ?_
   refine rn_sub ?_ (ih (L.length - (j + 1)) _ w5 (by omega) ⟨j + 1, rfl, hlt, rfl, by rw [stl_succ stays hp, hs]; exact h5, hk2.tr0 hk25⟩)
   exact ⟨rfl, rfl, rfl, rfl, rfl, trivial⟩
  | true =>
   refine au ?_
   have hS : Keep [d] w5 w5.drew := (Keep.refl _ _).drew
   have hlen : (ints p.2).length = 8 := by rw [ints_length, hpw.2]
   have hxd : w2.heap.size ∉ [d] := by simpa using hnd
   refine rn_draw (fun w' => Keep [d] w5 w') [] hMix ?_
   refine tk 0 ?_
   refine tk 1 ?_
   refine dr_val 2 (.int .i64 p.1) rfl (by decide +kernel) rfl rfl (fun w' hk => val_load1 hT rfl rfl rfl ((hk.blk hx5 hxd).cell rfl)) hS ?_
   refine tk 3 ?_
   refine dr_val 4 (.agg (ints p.2).toArray) rfl (by decide +kernel) rfl rfl (fun w' hk => val_load _ hT rfl rfl (by rw [hlen]; rfl) ((hk.blk hx5 hxd).range (by simp [wcell]))) hS ?_
   refine tk 5 ?_
   refine tk 6 ?_
   refine dr_val 7 _ rfl (by decide +kernel) rfl rfl (fun w' _ => val_indexArr p.1 hT rfl rfl rfl rfl rfl hpw.1 w') hS ?_
   refine dr_op 8 rfl (by decide +kernel) rfl rfl (opTo_store _ rfl rfl rfl rfl (by rw [hlen]; decide +kernel) h5.blk.drew (by rw [hlen, List.length_append, ints_length, h5.len]; simp; omega) (ints_one _) ⟨fun _ => hS.setRow _ _ (.inl (by simp)), ?_⟩)
   rw [Nat.add_zero, splice_upd h5.len wv hpw]
   refine dr_done (by decide +kernel) ?_
   have hbn := h5.blk.drew.set (ints (upd (stl stays L j S) p) ++ [wv])
   have hkd : Keep [d] w5 (w5.drew.setRow d (ints (upd (stl stays L j S) p) ++ [wv]).toArray) := hS.setRow _ _ (.inl (by simp))
   generalize (w5.drew.setRow d (ints (upd (stl stays L j S) p) ++ [wv]).toArray) = w6 at *
   refine au ?_
   refine pl_val (.int .i64 ((j + 1 : Nat) : Int)) rfl rfl (val_int .i64 j 1 _ rfl rfl rfl (by simp only [intOp]; rw [wrap_i64 (by omega) (by omega)]; rfl) w6) ?_
   refine au ?_
   refine rn_sub ?_ (ih (L.length - (j + 1)) _ w6 (by omega) ⟨j + 1, rfl, hlt, rfl, ?_, (hk2.tr0 hk25).tr hkd⟩)
   ·exact ⟨rfl, rfl, rfl, rfl, rfl, trivial⟩
   ·rw [stl_succ stays hp, hs]
    exact ⟨hbn, hkd.owns h5.owns fun k e => by
     simp only [List.mem_singleton]
     intro e2
     exact h.ne (e2 ▸ e), h.ne, upd_length h5.len hpw, h.base, h.wf⟩
 ·have hjj : j = L.length := by omega
  subst hjj
  refine pl_val (.bool false) rfl rfl (val_int .i64 _ _ _ rfl rfl rfl (by simp [intOp]) w2) ?_
  refine au ?_
  refine pl_op rfl rfl (opTo_store _ rfl rfl rfl rfl (by kernel_rfl) h2.blk (by simp [ints_length, h2.len]) (by simp; rfl) ?_)
  rw [splice_last h2.len]
  refine au ?_
  exact rn_end Tryz.func212 (.inr (.inl ⟨rfl, rfl⟩)) ⟨rfl, ⟨h2.blk.set _, World.ownsRow_nil _ _ _ _, by simp [Value.ownBlock], h2.len, h.base, by simp⟩, hk2.setRow _ _ (.inl (by simp))⟩
theorem flush_ret {B : Nat} {w : World} {d : Nat} {S : List Int} {L : List Wr} {wv : Value} (h : DiskV B w d S L wv) (hL : L.length < 1000000) :
  Ret Tryz.prog 287 [.pointer (some ⟨d, 0, none⟩)] w fun v w' => v = .tuple #[] ∧ DiskV B w' d (settled (fun _ => true) L S) [] (.slice none 0 0) ∧ Keep [d] w w' := by
 refine ret_of 4 Tryz.func287 rfl rfl (by simp) ?_
 refine au ?_
 refine pl_op rfl rfl (opTo_call rfl rfl rfl rfl (by decide +kernel) ((settle_ret h hL (fun _ => true) 290 [] (by decide +kernel) (fun i _ w1 _ => (flush1_ret i w1).mono fun v w' hv => ⟨hv.1, hv.2 ▸ Keep.refl _ _⟩)).mono ?_))
 rintro v w1 ⟨rfl, h1, hk⟩
 refine au ?_
 exact rn_end Tryz.func287 (.inr (.inl ⟨rfl, rfl⟩)) ⟨rfl, h1, hk⟩
theorem crash_ret {B : Nat} {w : World} {d : Nat} {S : List Int} {L : List Wr} {wv : Value} (h : DiskV B w d S L wv) (hL : L.length < 1000000) (mask : Int) :
  Ret Tryz.prog 182 [.pointer (some ⟨d, 0, none⟩), .int .u64 mask] w fun v w' => v = .tuple #[] ∧ DiskV B w' d (settled (maskB mask) L S) [] (.slice none 0 0) ∧ Keep [d] w w' := by
 refine ret_of 7 Tryz.func182 rfl rfl (by simp) ?_
 refine au ?_
 refine pl_op rfl rfl (opTo_box [.int .u64 mask] rfl rfl rfl ?_)
 have hk1 : Keep [] w (w.alloc (.cells [Value.int .u64 mask].toArray 86)) := (Keep.refl _ _).alloc _
 have hc : Blk (w.alloc (.cells [Value.int .u64 mask].toArray 86)) w.heap.size [.int .u64 mask] 86 := Blk.new _ _ _
 generalize (w.alloc (.cells [Value.int .u64 mask].toArray 86)) = w1 at *
 have hnd : w.heap.size ≠ d := by have := h.blk.lt; omega
 refine au ?_
 refine pl_op rfl rfl (opTo_call rfl rfl rfl rfl (by decide +kernel) ((settle_ret (h.keep hk1 (by simp)) hL (maskB mask) 213 [.pointer (some ⟨w.heap.size, 0, none⟩)] (by decide +kernel)
  (fun i _ w2 hk2 => (crash1_ret (hk2.blk hc (by simpa using hnd)) i).mono fun v w' hv => ⟨hv.1, hv.2 ▸ Keep.refl _ _⟩)).mono ?_))
 rintro v w2 ⟨rfl, h2, hk2⟩
 refine au ?_
 exact rn_end Tryz.func182 (.inr (.inl ⟨rfl, rfl⟩)) ⟨rfl, h2, (hk1.of0).tr hk2⟩
theorem dclone_ret {w : World} {b : Nat} {cs : List Value} (hr : w.rangeAt b 0 cs) (hl : cs.length = 272) (h1 : ∀ u ∈ cs, u.oneCell' = true) :
  Ret Tryz.prog 258 [.slice (some ⟨b, 0, none⟩) 34 34] w fun v w' => ∃ g cap, v = .slice (some ⟨g, 0, none⟩) 34 cap ∧ w'.ownsRow w.heap.size 254 8 v 34 cs ∧ Keep [] w w' := by
 refine ret_of 8 Tryz.func258 rfl rfl (by simp) ?_
 refine au ?_
 refine pl_val (.bool false) rfl rfl (val_notNil hT rfl rfl rfl w) ?_
 refine au ?_
 refine pl_op rfl rfl (opTo_buildSlice 254 [] rfl rfl (by kernel_rfl) ?_)
 have hk1 : Keep [] w (w.alloc (.cells ([] : List Value).toArray 254)) := (Keep.refl _ _).alloc _
 have hb1 : Blk (w.alloc (.cells ([] : List Value).toArray 254)) w.heap.size [] 254 := Blk.new _ _ _
 have hr1 : (w.alloc (.cells ([] : List Value).toArray 254)).rangeAt b 0 cs := World.rangeAt_alloc hr _
 generalize (w.alloc (.cells ([] : List Value).toArray 254)) = w1 at *
 refine au ?_
 refine pl_op rfl rfl (opTo_append w.heap.size 254 8 64 [] cs rfl rfl rfl (by decide +kernel) (by decide) ⟨rfl, .inr ⟨w.heap.size, 0, #[], rfl, Nat.le_refl _, hb1, Nat.le_refl _, by decide, rfl, rfl⟩⟩ hr1 hl h1 (by decide) (by decide) (by decide) (by have := hk1.size; omega) ?_)
 intro g cap w2 hown hgrow hat hlt
 refine au ?_
 refine rn_ret Tryz.func258 (.inl ⟨_, rfl, rfl⟩) ⟨g, cap, rfl, by simpa using hown, hk1.grown hgrow fun k e => ?_⟩
 simp only [Value.ownBlock, Option.some.injEq] at e
 exact .inr (by omega)
theorem sure_ret {B : Nat} {w : World} {d : Nat} {S : List Int} {L : List Wr} {wv : Value} (h : DiskV B w d S L wv) :
  Ret Tryz.prog 230 [.pointer (some ⟨d, 0, none⟩)] w fun v w' => ∃ g cap, v = .slice (some ⟨g, 0, none⟩) 34 cap ∧ w'.ownsRow w.heap.size 254 8 v 34 (ints S) ∧ Keep [] w w' := by
 refine ret_of 8 Tryz.func230 rfl rfl (by simp) ?_
 refine au ?_
 refine pl_val _ rfl rfl (val_sliceArr hT rfl rfl rfl w) ?_
 refine pl_op rfl rfl (opTo_call rfl rfl rfl rfl (by decide +kernel) ((dclone_ret (h.blk.range (by simp)) (by rw [ints_length, h.len]) (ints_one S)).mono ?_))
 rintro v w1 ⟨g, cap, rfl, ho, hk⟩
 refine au ?_
 exact rn_ret Tryz.func230 (.inl ⟨_, rfl, rfl⟩) ⟨g, cap, rfl, ho, hk⟩
end
section
open Go.Proofs
theorem Keep.range {fp : List Nat} {w w' : World} (h : Keep fp w w') {b q : Nat} {cs : List Value} (hr : w.rangeAt b q cs) (hlt : b < w.heap.size) (hn : b ∉ fp) : w'.rangeAt b q cs := fun j v hv => by
 rw [World.cell?_of_block (w := w) (h.block b hlt hn)]
 exact hr j v hv
theorem range_sub {w : World} {b q : Nat} {cs ds : List Value} (h : w.rangeAt b q cs) (k : Nat) (hd : (cs.drop k).take ds.length = ds) : w.rangeAt b (q + k) ds := fun j v hv => by
 rw [Nat.add_assoc]
 refine h (k + j) v ?_
 rw [← hd, List.getElem?_take] at hv
 split at hv
 ·simpa using hv
 ·cases hv
def sector (S : List Int) (k : Nat) : List Int := (S.drop (k * 8)).take 8
theorem sector_length {S : List Int} (h : S.length = 272) {k : Nat} (hk : k < 34) : (sector S k).length = 8 := by simp [sector, h]; omega
theorem sure_at {B : Nat} {w : World} {g cap : Nat} {S : List Int} (h : w.ownsRow B 254 8 (.slice (some ⟨g, 0, none⟩) 34 cap) 34 (ints S)) (hS : S.length = 272) {k : Nat} (hk : k < 34) : w.rangeAt g (0 + k * 8) (ints (sector S k)) := by
 refine owns_range h ?_
 rw [Nat.zero_add, ints_length, sector_length hS hk]
 simp [sector, ints, List.map_take, List.map_drop]
theorem sector_upd {S : List Int} {p : Wr} {k : Nat} (hS : S.length = 272) (hp : p.1 < 34 ∧ p.2.length = 8) (hk : k < 34) : sector (upd S p) k = if p.1 = k then p.2 else sector S k := by
 obtain ⟨a, ws⟩ := p
 simp only at hp ⊢
 unfold sector upd
 simp only
 apply List.ext_getElem?
 intro j
 by_cases e : a = k
 ·subst e
  simp only [if_true, List.getElem?_take, List.getElem?_drop]
  split
  ·rename_i hj
   rw [List.getElem?_append_left (by simp [hS, hp.2]; omega), List.getElem?_append_right (by simp [hS]; omega)]
   congr 1
   simp [hS]; omega
  ·rename_i hj
   rw [List.getElem?_eq_none (by omega)]
 ·simp only [e, if_false, List.getElem?_take, List.getElem?_drop]
  split
  ·rename_i hj
   rcases Nat.lt_or_gt_of_ne e with h | h
   ·rw [List.getElem?_append_right (by simp [hS, hp.2]; omega), List.getElem?_drop]
    congr 1
    simp [hS, hp.2]; omega
   ·rw [List.append_assoc, List.getElem?_append_left (by simp [hS]; omega), List.getElem?_take, if_pos (by omega)]
  ·rfl
end
section
open Go.Proofs
abbrev z8 : List Int := List.replicate 8 0
def hd (l : List Int) : Int := l.headD 0
def hasP (i : Int) : Bool := decide (0 ≤ i) && decide (i < 14)
def heldS (S : List Int) (at_ : Int) : List Int := if at_ = 0 ∨ hasB at_ = false then z8 else sector S at_.toNat
def rootMax (S : List Int) : Nat → List Int
 | 0 => z8
 | j + 1 => if hd (sector S j) > hd (rootMax S j) then sector S j else rootMax S j
def lastRoot (S : List Int) : List Int := rootMax S 2
def genS (S : List Int) : Int := hd (lastRoot S)
def tabS (S : List Int) : List Int := ((lastRoot S).drop 1).take 2
def pgS (S : List Int) : List Int := (heldS S ((tabS S).getD 0 0) ++ heldS S ((tabS S).getD 1 0)).take 14
def stS (S : List Int) : List Int := genS S :: (tabS S ++ pgS S)
def readS (S : List Int) (i : Int) : List Int := if hasP i then heldS S ((pgS S).getD i.toNat 0) else z8
theorem heldS_length {S : List Int} (hS : S.length = 272) (a : Int) : (heldS S a).length = 8 := by
 unfold heldS
 split
 ·simp [z8]
 ·rename_i h
  have h2 : hasB a = true := by
   rcases hb : hasB a with _ | _
   ·exact absurd (.inr hb) h
   ·rfl
  simp [hasB] at h2
  exact sector_length hS (by omega)
theorem rootMax_length {S : List Int} (hS : S.length = 272) : ∀ j, j ≤ 34 → (rootMax S j).length = 8
 | 0, _ => by simp [rootMax, z8]
 | j + 1, h => by
  unfold rootMax
  split
  ·exact sector_length hS (by omega)
  ·exact rootMax_length hS j (by omega)
theorem lastRoot_length {S : List Int} (hS : S.length = 272) : (lastRoot S).length = 8 := rootMax_length hS 2 (by decide)
theorem tabS_length {S : List Int} (hS : S.length = 272) : (tabS S).length = 2 := by simp [tabS, lastRoot_length hS]
theorem pgS_length {S : List Int} (hS : S.length = 272) : (pgS S).length = 14 := by simp [pgS, heldS_length hS]
theorem stS_length {S : List Int} (hS : S.length = 272) : (stS S).length = 17 := by simp [stS, tabS_length hS, pgS_length hS]
theorem readS_length {S : List Int} (hS : S.length = 272) (i : Int) : (readS S i).length = 8 := by
 unfold readS
 split
 ·exact heldS_length hS _
 ·simp [z8]
theorem list2 {l : List Int} (h : l.length = 2) : ∃ a b, l = [a, b] := by
 match l, h with
 | [a, b], _ => exact ⟨a, b, rfl⟩
theorem hasP_ret (i : Int) (w : World) : Ret Tryz.prog 229 [.int .i64 i] w fun v w' => v = .bool (hasP i) ∧ w' = w := by
 refine ret_of 9 Tryz.func229 rfl rfl (by simp) ?_
 refine au ?_
 by_cases h0 : 0 ≤ i
 ·refine pl_val (.bool true) rfl rfl (val_int .i64 i 0 _ rfl rfl rfl (by simp [intOp, h0]) w) ?_
  refine au ?_
  refine pl_val (.bool (decide (i < 14))) rfl rfl (val_int .i64 i 14 _ rfl rfl rfl (by simp [intOp]) w) ?_
  refine au ?_
  refine rn_ret Tryz.func229 (.inl ⟨_, rfl, rfl⟩) ⟨?_, rfl⟩
  simp [hasP, h0]
 ·refine pl_val (.bool false) rfl rfl (val_int .i64 i 0 _ rfl rfl rfl (by simp [intOp, h0]) w) ?_
  refine au ?_
  refine rn_ret Tryz.func229 (.inl ⟨_, rfl, rfl⟩) ⟨?_, rfl⟩
  simp [hasP, h0]
theorem held_ret {B : Nat} {w : World} {g cap : Nat} {S : List Int} (ho : w.ownsRow B 254 8 (.slice (some ⟨g, 0, none⟩) 34 cap) 34 (ints S)) (hS : S.length = 272) (a : Int) :
  Ret Tryz.prog 231 [.slice (some ⟨g, 0, none⟩) 34 cap, .int .i64 a] w fun v w' => v = .agg (ints (heldS S a)).toArray ∧ Keep [] w w' := by
 refine ret_of 17 Tryz.func231 rfl rfl (by simp) ?_
 refine au ?_
 refine pl_op rfl rfl (opTo_alloc _ rfl zero_words ?_)
 have hlt : g < w.heap.size := (ho.lt g rfl).2
 have hr := Blk.new w (ints (List.replicate 8 0)) 254
 have hk1 : Keep [] w (w.alloc (.cells (ints (List.replicate 8 0)).toArray 254)) := (Keep.refl _ _).alloc _
 have ho1 := hk1.owns ho (by simp)
 generalize (w.alloc (.cells (ints (List.replicate 8 0)).toArray 254)) = w1 at *
 refine auj ?_
 refine rn_seq ?_
 refine rn_seq ?_
 refine rn_with (fun σ w' => w' = w1 ∧ σ = [(0, .slice (some ⟨g, 0, none⟩) 34 cap), (1, .int .i64 a), (4, .pointer (some ⟨w.heap.size, 0, none⟩)), (11, .bool (decide (a = 0 ∨ hasB a = false)))]) ?_ ?_
 ·rintro σ w2 ⟨rfl, rfl⟩
  by_cases hout : a = 0 ∨ hasB a = false
  ·rw [decide_eq_true hout]
   refine au ?_
   refine pl_val _ rfl rfl (val_build _ rfl rfl built_words0 w2) ?_
   refine pl_op rfl rfl (opTo_store _ rfl rfl rfl rfl (by kernel_rfl) hr (by simp [ints]) (ints_one _) ?_)
   rw [splice_all rfl]
   refine au ?_
   refine rn_ret Tryz.func231 (.inr (.inr (.inl ⟨_, _, _, rfl, rfl, loadVar_agg hT (cs := ints (List.replicate 8 0)) rfl ((hr.set _).range (by simp))⟩))) ⟨?_, hk1.setRow _ _ (.inr (Nat.le_refl _))⟩
   rw [heldS, if_pos hout]
  ·rw [decide_eq_false hout]
   refine au ?_
   have hb : hasB a = true := by
    rcases hb : hasB a with _ | _
    ·exact absurd (.inr hb) hout
    ·rfl
   have hi : 0 ≤ a ∧ a < 34 := by simpa [hasB] using hb
   refine pl_val _ rfl rfl (val_index a.toNat hT rfl rfl rfl rfl (by omega) (by omega) w2) ?_
   have h8 : (sector S a.toNat).length = 8 := sector_length hS (by omega)
   refine pl_val (.agg (ints (sector S a.toNat)).toArray) rfl rfl (val_load _ hT rfl rfl (by rw [ints_length, h8]; rfl) (sure_at ho1 hS (by omega))) ?_
   refine pl_op rfl rfl (opTo_store _ rfl rfl rfl rfl (by rw [ints_length, h8]; decide +kernel) hr (by rw [ints_length, h8]; decide) (ints_one _) ?_)
   rw [splice_all (by rw [ints_length, h8]; rfl)]
   refine au ?_
   refine rn_ret Tryz.func231 (.inr (.inr (.inl ⟨_, _, _, rfl, rfl, loadVar_agg hT (cs := ints (sector S a.toNat)) (by rw [ints_length, h8]; rfl) ((hr.set _).range (by simp))⟩))) ⟨?_, hk1.setRow _ _ (.inr (Nat.le_refl _))⟩
   rw [heldS, if_neg hout]
 intro hjoin
 refine rn_plain ?_
 by_cases h0 : a = 0
 ·refine pl_pure hT rfl rfl rfl ?_
  refine pl_val (.bool true) rfl rfl (val_int .i64 a 0 _ rfl rfl rfl (by simp [intOp, h0]) w1) ?_
  repeat (first | refine pl_pure hT rfl rfl rfl ?_ | refine pl_nil ?_ | refine pl_not rfl rfl ?_)
  refine rn_sub ?_ (hjoin _ w1 ⟨rfl, rfl⟩)
  rw [decide_eq_true (.inl h0)]
  exact ⟨rfl, rfl, rfl, rfl, trivial⟩
 ·refine pl_pure hT rfl rfl rfl ?_
  refine pl_val (.bool false) rfl rfl (val_int .i64 a 0 _ rfl rfl rfl (by simp [intOp, h0]) w1) ?_
  repeat (first | refine pl_pure hT rfl rfl rfl ?_)
  refine pl_op rfl rfl (opTo_call rfl rfl rfl rfl (by decide +kernel) ((dHas_ret a _).mono ?_))
  rintro v w1 ⟨rfl, rfl⟩
  repeat (first | refine pl_pure hT rfl rfl rfl ?_ | refine pl_nil ?_)
  refine rn_sub ?_ (hjoin _ w1 ⟨rfl, rfl⟩)
  rw [show decide (a = 0 ∨ hasB a = false) = !hasB a by cases hasB a <;> simp [h0]]
  exact ⟨rfl, rfl, rfl, rfl, trivial⟩
end
section
open Go.Proofs
theorem zero_state : ((Tryz.prog.info? 310).bind (·.zero)).map (·.cells) = some (ints (List.replicate 17 0)).toArray := by kernel_rfl
theorem built_state (g : Int) : Tryz.prog.built 310 [(0, Value.int .i64 g)] = some (ints (g :: List.replicate 16 0)).toArray := by kernel_rfl
def pgAt (S : List Int) (t0 t1 : Int) : Nat → List Int
 | 0 => List.replicate 14 0
 | 1 => heldS S t0 ++ List.replicate 6 0
 | _ => (heldS S t0 ++ heldS S t1).take 14
theorem pgAt_length {S : List Int} (hS : S.length = 272) (t0 t1 : Int) (j : Nat) : (pgAt S t0 t1 j).length = 14 := by
 unfold pgAt
 split <;> simp [heldS_length hS]
theorem arrT : arrInt Tryz.prog 307 2 = true := by decide +kernel
theorem arrP : arrInt Tryz.prog 308 14 = true := by decide +kernel
theorem rangeAt_take {w : World} {b i : Nat} {cs ds : List Value} (h : w.rangeAt b i cs) (hd : ds = cs.take ds.length) : w.rangeAt b i ds := fun j u hu => h j u (by
 rw [hd, List.getElem?_take] at hu
 split at hu
 ·exact hu
 ·cases hu)
theorem find_ret {B : Nat} {w : World} {g cap : Nat} {S : List Int} (ho : w.ownsRow B 254 8 (.slice (some ⟨g, 0, none⟩) 34 cap) 34 (ints S)) (hS : S.length = 272) (hcap : 2 ≤ cap) :
  Ret Tryz.prog 232 [.slice (some ⟨g, 0, none⟩) 34 cap] w fun v w' => v = .agg (ints (stS S)).toArray ∧ Keep [] w w' := by
 refine ret_of 48 Tryz.func232 rfl rfl (by simp) ?_
 refine au ?_
 refine pl_op rfl rfl (opTo_alloc _ rfl zero_state ?_)
 refine au ?_
 refine pl_op rfl rfl (opTo_alloc _ rfl zero_words ?_)
 rw [World.size_alloc]
 have hk1 : Keep [] w ((w.alloc (.cells (ints (List.replicate 17 0)).toArray 310)).alloc (.cells (ints (List.replicate 8 0)).toArray 254)) := ((Keep.refl _ _).alloc _).alloc _
 have hres : Blk ((w.alloc (.cells (ints (List.replicate 17 0)).toArray 310)).alloc (.cells (ints (List.replicate 8 0)).toArray 254)) w.heap.size (ints (List.replicate 17 0)) 310 := (Blk.new _ _ _).alloc _
 have hlast : Blk ((w.alloc (.cells (ints (List.replicate 17 0)).toArray 310)).alloc (.cells (ints (List.replicate 8 0)).toArray 254)) (w.heap.size + 1) (ints (List.replicate 8 0)) 254 := by
  have := Blk.new (w.alloc (.cells (ints (List.replicate 17 0)).toArray 310)) (ints (List.replicate 8 0)) 254
  rwa [World.size_alloc] at this
 generalize ((w.alloc (.cells (ints (List.replicate 17 0)).toArray 310)).alloc (.cells (ints (List.replicate 8 0)).toArray 254)) = w1 at *
 have hg : g < w.heap.size := (ho.lt g rfl).2
 refine au ?_
 refine pl_val _ rfl rfl (val_sliceTo 2 hT rfl rfl rfl rfl rfl hcap w1) ?_
 refine au ?_
 refine rn_ind (fun m σ w' => ∃ j, m = 2 - j ∧ j ≤ 2 ∧ σ = [(0, .slice (some ⟨g, 0, none⟩) 34 cap), (2, .pointer (some ⟨w.heap.size, 0, none⟩)), (3, .pointer (some ⟨w.heap.size + 1, 0, none⟩)), (11, .slice (some ⟨g, 0, none⟩) 2 cap), (12, .int .i64 2), (13, .int .i64 (j : Nat))] ∧
   Keep [] w w' ∧ Blk w' w.heap.size (ints (List.replicate 17 0)) 310 ∧ Blk w' (w.heap.size + 1) (ints (rootMax S j)) 254)
  (2 - 0) _ ?_ ⟨0, rfl, by decide, rfl, hk1, hres, hlast⟩ ?_
 ·exact ⟨rfl, rfl, rfl, rfl, rfl, rfl, trivial⟩
 clear hk1 hres hlast
 rintro m σ w2 ih ⟨j, hm, hj, rfl, hk2, hres, hlast⟩
 refine au ?_
 rcases Nat.lt_or_ge j 2 with hlt | hge
 ·refine pl_val (.bool true) rfl rfl (val_int .i64 _ _ _ rfl rfl rfl (by simp [intOp]; omega) w2) ?_
  refine au ?_
  have h8 : (sector S j).length = 8 := sector_length hS (by omega)
  have hm8 : (rootMax S j).length = 8 := rootMax_length hS j (by omega)
  refine pl_val _ rfl rfl (val_index j hT rfl rfl rfl rfl rfl hlt w2) ?_
  refine pl_val (.agg (ints (sector S j)).toArray) rfl rfl (val_load _ hT rfl rfl (by rw [ints_length, h8]; rfl) (sure_at (hk2.owns ho (by simp)) hS (by omega))) ?_
  refine pl_op rfl rfl (opTo_alloc _ rfl zero_words ?_)
  have hk3 : Keep [] w (w2.alloc (.cells (ints (List.replicate 8 0)).toArray 254)) := hk2.alloc _
  have hx3 := Blk.new w2 (ints (List.replicate 8 0)) 254
  have hres3 := hres.alloc (.cells (ints (List.replicate 8 0)).toArray 254)
  have hlast3 := hlast.alloc (.cells (ints (List.replicate 8 0)).toArray 254)
  have hsz := hk2.size
  generalize (w2.alloc (.cells (ints (List.replicate 8 0)).toArray 254)) = w3 at *
  refine au ?_
  refine pl_op rfl rfl (opTo_store _ rfl rfl rfl rfl (by rw [ints_length, h8]; decide +kernel) hx3 (by rw [ints_length, h8]; decide) (ints_one _) ?_)
  rw [splice_all (by rw [ints_length, h8]; rfl)]
  have hk4 := hk3.setRow w2.heap.size (ints (sector S j)).toArray (.inr hsz)
  have hx4 := hx3.set (ints (sector S j))
  have hres4 := hres3.other (ints (sector S j)).toArray (c := w2.heap.size) (by have := hres.lt; omega)
  have hlast4 := hlast3.other (ints (sector S j)).toArray (c := w2.heap.size) (by have := hlast.lt; omega)
  have hnx : w.heap.size + 1 ≠ w2.heap.size := by have := hlast.lt; omega
  generalize (w3.setRow w2.heap.size (ints (sector S j)).toArray) = w4 at *
  refine au ?_
  refine pl_val _ rfl rfl (val_indexArr 0 hT rfl rfl rfl rfl rfl (by decide) w4) ?_
  refine pl_val (.int .i64 (hd (sector S j))) rfl rfl (val_load1 hT rfl rfl rfl (hx4.cell (by obtain ⟨a, b, c, d, e, f, g, i, h⟩ := list8 h8; rw [h]; rfl))) ?_
  refine pl_val _ rfl rfl (val_indexArr 0 hT rfl rfl rfl rfl rfl (by decide) w4) ?_
  refine pl_val (.int .i64 (hd (rootMax S j))) rfl rfl (val_load1 hT rfl rfl rfl (hlast4.cell (by obtain ⟨a, b, c, d, e, f, g, i, h⟩ := list8 hm8; rw [h]; rfl))) ?_
  by_cases hgt : hd (sector S j) > hd (rootMax S j)
  ·refine pl_val (.bool true) rfl rfl (val_int .i64 _ _ _ rfl rfl rfl (by simp only [intOp, hgt, decide_true]) w4) ?_
   refine au ?_
   refine pl_val (.agg (ints (sector S j)).toArray) rfl rfl (val_load _ hT rfl rfl (by rw [ints_length, h8]; rfl) (hx4.range (by simp))) ?_
   refine pl_op rfl rfl (opTo_store _ rfl rfl rfl rfl (by rw [ints_length, h8]; decide +kernel) hlast4 (by rw [ints_length, ints_length, h8, hm8]; decide) (ints_one _) ?_)
   rw [splice_all (by rw [ints_length, h8, ints_length, hm8])]
   have hk5 := hk4.setRow (w.heap.size + 1) (ints (sector S j)).toArray (.inr (by omega))
   have hlast5 := hlast4.set (ints (sector S j))
   have hres5 := hres4.other (ints (sector S j)).toArray (c := w.heap.size + 1) (by omega)
   generalize (w4.setRow (w.heap.size + 1) (ints (sector S j)).toArray) = w5 at *
   refine au ?_
   refine pl_val (.int .i64 ((j + 1 : Nat) : Int)) rfl rfl (val_int .i64 j 1 _ rfl rfl rfl (by simp only [intOp]; rw [wrap_i64 (by omega) (by omega)]; rfl) w5) ?_
   refine au ?_
   refine rn_sub ?_ (ih (2 - (j + 1)) _ w5 (by omega) ⟨j + 1, rfl, hlt, rfl, hk5, hres5, by rw [rootMax, if_pos hgt]; exact hlast5⟩)
   exact ⟨rfl, rfl, rfl, rfl, rfl, rfl, trivial⟩
  ·refine pl_val (.bool false) rfl rfl (val_int .i64 _ _ _ rfl rfl rfl (by simp only [intOp, hgt, decide_false]) w4) ?_
   refine au ?_
   refine pl_val (.int .i64 ((j + 1 : Nat) : Int)) rfl rfl (val_int .i64 j 1 _ rfl rfl rfl (by simp only [intOp]; rw [wrap_i64 (by omega) (by omega)]; rfl) w4) ?_
   refine au ?_
   refine rn_sub ?_ (ih (2 - (j + 1)) _ w4 (by omega) ⟨j + 1, rfl, hlt, rfl, hk4, hres4, by rw [rootMax, if_neg hgt]; exact hlast4⟩)
   exact ⟨rfl, rfl, rfl, rfl, rfl, rfl, trivial⟩
 have hjj : j = 2 := by omega
 subst hjj
 clear ih
 refine pl_val (.bool false) rfl rfl (val_int .i64 _ _ _ rfl rfl rfl (by simp [intOp]) w2) ?_
 refine au ?_
 have hl8 := lastRoot_length hS
 replace hlast : Blk w2 (w.heap.size + 1) (ints (lastRoot S)) 254 := hlast
 have hst : stS S = genS S :: (tabS S ++ pgS S) := rfl
 have hpg : pgS S = pgAt S ((tabS S).getD 0 0) ((tabS S).getD 1 0) 2 := rfl
 have hgen : genS S = hd (lastRoot S) := rfl
 have htab : tabS S = ((lastRoot S).drop 1).take 2 := rfl
 rw [hst, hpg, hgen, htab]
 generalize lastRoot S = R at *
 obtain ⟨a0, a1, a2, a3, a4, a5, a6, a7, rfl⟩ := list8 hl8
 clear hst hpg hgen htab hl8
 have hsz := hk2.size
 refine pl_val _ rfl rfl (val_indexArr 0 hT rfl rfl rfl rfl rfl (by decide) w2) ?_
 refine pl_val (.int .i64 a0) rfl rfl (val_load1 hT rfl rfl rfl (hlast.cell rfl)) ?_
 refine pl_val _ rfl rfl (val_build _ rfl rfl (built_state a0) w2) ?_
 refine pl_op rfl rfl (opTo_alloc _ rfl zero_state ?_)
 have hk3 : Keep [] w (w2.alloc (.cells (ints (List.replicate 17 0)).toArray 310)) := hk2.alloc _
 have hx3 := Blk.new w2 (ints (List.replicate 17 0)) 310
 have hres3 := hres.alloc (.cells (ints (List.replicate 17 0)).toArray 310)
 have hlast3 := hlast.alloc (.cells (ints (List.replicate 17 0)).toArray 310)
 have hx1 : w.heap.size ≠ w2.heap.size := by have := hres.lt; omega
 have hx2 : w.heap.size + 1 ≠ w2.heap.size := by have := hlast.lt; omega
 generalize (w2.alloc (.cells (ints (List.replicate 17 0)).toArray 310)) = w3 at *
 refine au ?_
 refine pl_op rfl rfl (opTo_store _ rfl rfl rfl rfl (by kernel_rfl) hx3 (by simp [ints]) (ints_one _) ?_)
 rw [splice_all (show (ints (a0 :: List.replicate 16 0)).length = (ints (List.replicate 17 0)).length from rfl)]
 have hk4 := hk3.setRow w2.heap.size (ints (a0 :: List.replicate 16 0)).toArray (.inr hsz)
 have hx4 := hx3.set (ints (a0 :: List.replicate 16 0))
 have hres4 := hres3.other (ints (a0 :: List.replicate 16 0)).toArray hx1
 have hlast4 := hlast3.other (ints (a0 :: List.replicate 16 0)).toArray hx2
 generalize (w3.setRow w2.heap.size (ints (a0 :: List.replicate 16 0)).toArray) = w4 at *
 refine au ?_
 refine rn_draw (fun _ => True) [] hMix ?_
 refine tk 0 ?_
 refine dr_any 1 _ rfl (by decide +kernel) rfl rfl (fun w' => val_sliceArr hT rfl rfl rfl w') ?_
 refine dr_any 2 _ rfl (by decide +kernel) rfl rfl (fun w' => val_sliceArrFrom 1 hT rfl rfl rfl rfl rfl (by decide) w') ?_
 refine dr_op 3 rfl (by decide +kernel) rfl rfl (opTo_copy (ints [a1, a2]) rfl rfl rfl (by decide +kernel) hx4.drew rfl (hlast4.drew.range rfl) (by simp [ints]) (ints_one _) fun r => ⟨fun _ => trivial, ?_⟩)
 refine dr_done (by decide +kernel) ?_
 have e1 : splice (ints (a0 :: List.replicate 16 0)) (0 + 1) (ints [a1, a2]) = ints (a0 :: a1 :: a2 :: pgAt S a1 a2 0) := rfl
 rw [e1]
 have hk5 := (hk4.drew).setRow w2.heap.size (ints (a0 :: a1 :: a2 :: pgAt S a1 a2 0)).toArray (.inr hsz)
 have hx5 := hx4.drew.set (ints (a0 :: a1 :: a2 :: pgAt S a1 a2 0))
 have hres5 := hres4.drew.other (ints (a0 :: a1 :: a2 :: pgAt S a1 a2 0)).toArray hx1
 clear hx4 hres4 hlast4 hk4 hk3 hx3 hres3 hlast3 hres hlast
 generalize (w4.drew.setRow w2.heap.size (ints (a0 :: a1 :: a2 :: pgAt S a1 a2 0)).toArray) = w5 at *
 generalize hx : w2.heap.size = x at *
 clear hk2 hx
 refine au ?_
 refine pl_val (.agg (ints [a1, a2]).toArray) rfl rfl (val_load _ hT rfl rfl rfl (hx5.range rfl)) ?_
 refine au ?_
 refine rn_ind (fun m σ w' => ∃ j, m = 2 - j ∧ j ≤ 2 ∧ σ = [(0, .slice (some ⟨g, 0, none⟩) 34 cap), (2, .pointer (some ⟨w.heap.size, 0, none⟩)), (6, .pointer (some ⟨x, 0, none⟩)), (32, .agg (ints [a1, a2]).toArray), (33, .int .i64 (j : Nat))] ∧
   Keep [] w w' ∧ Blk w' w.heap.size (ints (List.replicate 17 0)) 310 ∧ Blk w' x (ints (a0 :: a1 :: a2 :: pgAt S a1 a2 j)) 310)
  (2 - 0) _ ?_ ⟨0, rfl, by decide, rfl, hk5, hres5, hx5⟩ ?_
 ·exact ⟨rfl, rfl, rfl, rfl, rfl, trivial⟩
 clear hk5 hres5 hx5
 rintro m σ w6 ih ⟨j, hm, hj, rfl, hk6, hres, hx6⟩
 refine au ?_
 rcases Nat.lt_or_ge j 2 with hlt | hge
 ·refine pl_val (.bool true) rfl rfl (val_int .i64 _ _ _ rfl rfl rfl (by simp [intOp]; omega) w6) ?_
  refine au ?_
  obtain ⟨t, ht⟩ : ∃ t, [a1, a2][j]? = some t := ⟨_, List.getElem?_eq_getElem (by simpa using hlt)⟩
  refine pl_val (.int .i64 t) rfl rfl (val_at [a1, a2] j arrT rfl rfl rfl rfl hlt ht w6) ?_
  refine au ?_
  refine pl_op rfl rfl (opTo_call rfl rfl rfl rfl (by decide +kernel) ((held_ret (hk6.owns ho (by simp)) hS t).mono ?_))
  rintro v w7 ⟨rfl, hk7⟩
  have h8 := heldS_length hS t
  refine pl_op rfl rfl (opTo_alloc _ rfl zero_words ?_)
  have hkw7 := hk6.tr0 hk7
  have hk8 : Keep [] w (w7.alloc (.cells (ints (List.replicate 8 0)).toArray 254)) := hkw7.alloc _
  have hy8 := Blk.new w7 (ints (List.replicate 8 0)) 254
  have hres7 := hk7.blk hres (by simp)
  have hx7 := hk7.blk hx6 (by simp)
  have hres8 := hres7.alloc (.cells (ints (List.replicate 8 0)).toArray 254)
  have hx8 := hx7.alloc (.cells (ints (List.replicate 8 0)).toArray 254)
  have hn1 : w.heap.size ≠ w7.heap.size := by have := hres7.lt; omega
  have hn2 : x ≠ w7.heap.size := by have := hx7.lt; omega
  have hn3 := hkw7.size
  generalize (w7.alloc (.cells (ints (List.replicate 8 0)).toArray 254)) = w8 at *
  refine au ?_
  refine pl_op rfl rfl (opTo_store _ rfl rfl rfl rfl (by rw [ints_length, h8]; decide +kernel) hy8 (by rw [ints_length, h8]; decide) (ints_one _) ?_)
  rw [splice_all (by rw [ints_length, h8]; rfl)]
  have hk9 := hk8.setRow w7.heap.size (ints (heldS S t)).toArray (.inr hn3)
  have hy9 := hy8.set (ints (heldS S t))
  have hres9 := hres8.other (ints (heldS S t)).toArray hn1
  have hx9 := hx8.other (ints (heldS S t)).toArray hn2
  generalize (w8.setRow w7.heap.size (ints (heldS S t)).toArray) = w9 at *
  refine au ?_
  refine rn_draw (fun _ => True) [] hMix ?_
  refine tk 0 ?_
  refine tk 1 ?_
  refine dr_any 2 (.int .i64 ((j * 8 : Nat) : Int)) rfl (by decide +kernel) rfl rfl (fun w' => val_int .i64 j 8 _ rfl rfl rfl (by simp only [intOp]; rw [wrap_i64 (by omega) (by omega)]; simp) w') ?_
  refine dr_any 3 _ rfl (by decide +kernel) rfl rfl (fun w' => val_sliceArrFrom (j * 8) hT rfl rfl rfl rfl rfl (by omega) w') ?_
  refine dr_any 4 _ rfl (by decide +kernel) rfl rfl (fun w' => val_sliceArr hT rfl rfl rfl w') ?_
  have hcl : ((heldS S t).take (Nat.min 8 (14 - j * 8))).length = Nat.min 8 (14 - j * 8) := by rw [List.length_take, h8]; exact Nat.min_eq_left (Nat.min_le_left _ _)
  have hle : Nat.min 8 (14 - j * 8) ≤ 14 - j * 8 := Nat.min_le_right _ _
  refine dr_op 5 rfl (by decide +kernel) rfl rfl (opTo_copy (ints ((heldS S t).take (Nat.min 8 (14 - j * 8)))) rfl rfl rfl (by decide +kernel) hx9.drew (by rw [ints_length, hcl]) (rangeAt_take (hy9.drew.range (cs := ints (heldS S t)) (by simp)) (by rw [ints_length, hcl]; simp [ints, List.map_take])) (by rw [ints_length, hcl, ints_length]; simp [pgAt_length hS]; omega) (ints_one _) fun r => ⟨fun _ => trivial, ?_⟩)
  refine dr_done (by decide +kernel) ?_
  have e2 : splice (ints (a0 :: a1 :: a2 :: pgAt S a1 a2 j)) (0 + 3 + j * 8 * 1) (ints ((heldS S t).take (Nat.min 8 (14 - j * 8)))) = ints (a0 :: a1 :: a2 :: pgAt S a1 a2 (j + 1)) := by
   have hj2 : j = 0 ∨ j = 1 := by omega
   rcases hj2 with rfl | rfl
   ·simp at ht
    subst ht
    simp only [pgAt]
    obtain ⟨b0, b1, b2, b3, b4, b5, b6, b7, hb⟩ := list8 h8
    rw [hb]
    rfl
   ·simp at ht
    subst ht
    simp only [pgAt]
    obtain ⟨b0, b1, b2, b3, b4, b5, b6, b7, hb⟩ := list8 h8
    obtain ⟨c0, c1, c2, c3, c4, c5, c6, c7, hc⟩ := list8 (heldS_length hS a1)
    rw [hb, hc]
    rfl
  rw [e2]
  have hk10 := (hk9.drew).setRow x (ints (a0 :: a1 :: a2 :: pgAt S a1 a2 (j + 1))).toArray (.inr hsz)
  have hx10 := hx9.drew.set (ints (a0 :: a1 :: a2 :: pgAt S a1 a2 (j + 1)))
  have hres10 := hres9.drew.other (ints (a0 :: a1 :: a2 :: pgAt S a1 a2 (j + 1))).toArray hx1
  generalize (w9.drew.setRow x (ints (a0 :: a1 :: a2 :: pgAt S a1 a2 (j + 1))).toArray) = w10 at *
  refine au ?_
  refine pl_val (.int .i64 ((j + 1 : Nat) : Int)) rfl rfl (val_int .i64 j 1 _ rfl rfl rfl (by simp only [intOp]; rw [wrap_i64 (by omega) (by omega)]; rfl) w10) ?_
  refine au ?_
  refine rn_sub ?_ (ih (2 - (j + 1)) _ w10 (by omega) ⟨j + 1, rfl, hlt, rfl, hk10, hres10, hx10⟩)
  exact ⟨rfl, rfl, rfl, rfl, rfl, trivial⟩
 have hjj : j = 2 := by omega
 subst hjj
 refine pl_val (.bool false) rfl rfl (val_int .i64 _ _ _ rfl rfl rfl (by simp [intOp]) w6) ?_
 refine au ?_
 have h17 : (a0 :: a1 :: a2 :: pgAt S a1 a2 2).length = 17 := by simp [pgAt_length hS]
 refine pl_val (.agg (ints (a0 :: a1 :: a2 :: pgAt S a1 a2 2)).toArray) rfl rfl (val_load _ hT rfl rfl (by rw [ints_length, h17]; rfl) (hx6.range (by simp))) ?_
 refine pl_op rfl rfl (opTo_store (ints (a0 :: a1 :: a2 :: pgAt S a1 a2 2)) rfl rfl rfl rfl (by rw [ints_length, h17]; decide +kernel) hres (by rw [ints_length, h17]; decide) (ints_one _) ?_)
 rw [splice_all (by rw [ints_length, h17]; rfl)]
 refine au ?_
 refine rn_ret Tryz.func232 (.inr (.inr (.inl ⟨_, _, _, rfl, rfl, loadVar_agg hT (cs := ints (a0 :: a1 :: a2 :: pgAt S a1 a2 2)) (by rw [ints_length, h17]; rfl) ((hres.set _).range (by simp))⟩))) ⟨?_, hk6.setRow _ _ (.inr (Nat.le_refl _))⟩
 rfl
end
section
open Go.Proofs
def StoreV (w : World) (s d : Nat) : Prop := Blk w s [.pointer (some ⟨d, 0, none⟩)] 286
theorem built_store (d : Nat) : Tryz.prog.built 286 [(0, Value.pointer (some ⟨d, 0, none⟩))] = some [Value.pointer (some ⟨d, 0, none⟩)].toArray := by kernel_rfl
theorem open_ret (d : Nat) (w : World) : Ret Tryz.prog 175 [.pointer (some ⟨d, 0, none⟩)] w fun v w' => v = .pointer (some ⟨w.heap.size, 0, none⟩) ∧ StoreV w' w.heap.size d ∧ Keep [] w w' := by
 refine ret_of 6 Tryz.func175 rfl rfl (by simp) ?_
 refine au ?_
 refine pl_val _ rfl rfl (val_build _ rfl rfl (built_store d) w) ?_
 refine pl_op rfl rfl (opTo_box _ rfl rfl rfl ?_)
 refine au ?_
 exact rn_ret Tryz.func175 (.inl ⟨_, rfl, rfl⟩) ⟨rfl, Blk.new w _ _, (Keep.refl _ _).alloc _⟩
theorem owns_cap {w : World} {B e size n g cap : Nat} {xs : List Value} (h : w.ownsRow B e size (.slice (some ⟨g, 0, none⟩) n cap) n xs) : n ≤ cap := by
 rcases h.2 with ⟨h1, h2⟩ | ⟨g', cap', cur, h1, _, _, hc, _⟩
 ·cases h1
 ·injection h1 with e1 e2 e3
  subst e3
  first | exact hc | omega
theorem stS_pages {S : List Int} (hS : S.length = 272) : ((ints (stS S)).drop 3).take 14 = ints (pgS S) := by
 obtain ⟨a, b, h⟩ := list2 (tabS_length hS)
 have hp := pgS_length hS
 simp only [stS, h]
 simp [ints, hp, List.take_of_length_le]
theorem sread_ret {B : Nat} {w : World} {s d : Nat} {S : List Int} {L : List Wr} {wv : Value} (hs : StoreV w s d) (h : DiskV B w d S L wv) (i : Int) :
  Ret Tryz.prog 205 [.pointer (some ⟨s, 0, none⟩), .int .i64 i] w fun v w' => v = .agg (ints (readS S i)).toArray ∧ Keep [] w w' := by
 refine ret_of 22 Tryz.func205 rfl rfl (by simp) ?_
 refine au ?_
 refine pl_op rfl rfl (opTo_alloc _ rfl zero_words ?_)
 have hr := Blk.new w (ints (List.replicate 8 0)) 254
 have hk1 : Keep [] w (w.alloc (.cells (ints (List.replicate 8 0)).toArray 254)) := (Keep.refl _ _).alloc _
 have h1 := h.keep hk1 (by simp)
 have hs1 := hk1.blk hs (by simp)
 generalize (w.alloc (.cells (ints (List.replicate 8 0)).toArray 254)) = w1 at *
 refine au ?_
 refine pl_op rfl rfl (opTo_call rfl rfl rfl rfl (by decide +kernel) ((hasP_ret i _).mono ?_))
 rintro v w1 ⟨rfl, rfl⟩
 cases hb : hasP i with
 | false =>
  refine au ?_
  refine pl_val _ rfl rfl (val_build _ rfl rfl built_words0 w1) ?_
  refine pl_op rfl rfl (opTo_store _ rfl rfl rfl rfl (by kernel_rfl) hr (by simp [ints]) (ints_one _) ?_)
  rw [splice_all rfl]
  refine au ?_
  refine rn_ret Tryz.func205 (.inr (.inr (.inl ⟨_, _, _, rfl, rfl, loadVar_agg hT (cs := ints (List.replicate 8 0)) rfl ((hr.set _).range (by simp))⟩))) ⟨?_, hk1.setRow _ _ (.inr (Nat.le_refl _))⟩
  simp [readS, hb]
  rfl
 | true =>
  have hi : 0 ≤ i ∧ i < 14 := by simpa [hasP] using hb
  refine au ?_
  refine pl_val (.pointer (some ⟨d, 0, none⟩)) rfl rfl (val_load1 hT rfl rfl rfl (hs1.cell rfl)) ?_
  refine pl_op rfl rfl (opTo_call rfl rfl rfl rfl (by decide +kernel) ((sure_ret h1).mono ?_))
  rintro v w2 ⟨g, cap, rfl, ho, hk2⟩
  refine au ?_
  refine pl_op rfl rfl (opTo_call rfl rfl rfl rfl (by decide +kernel) ((find_ret ho h.len (by have := owns_cap ho; omega)).mono ?_))
  rintro v w3 ⟨rfl, hk3⟩
  refine pl_val (.agg (ints (pgS S)).toArray) rfl rfl (val_fieldAgg (m := 14) 3 _ _ rfl rfl (by decide +kernel) (stS_pages h.len) w3) ?_
  refine au ?_
  have hp14 := pgS_length h.len
  refine pl_val (.int .i64 ((pgS S).getD i.toNat 0)) rfl rfl (val_at (pgS S) i.toNat arrP rfl rfl rfl (by omega) (by omega) (by rw [List.getD_eq_getElem?_getD, List.getElem?_eq_getElem (by omega)]; rfl) w3) ?_
  refine pl_op rfl rfl (opTo_call rfl rfl rfl rfl (by decide +kernel) ((held_ret (hk3.owns ho (by simp)) h.len _).mono ?_))
  rintro v w4 ⟨rfl, hk4⟩
  have hk14 := (hk2.tr0 hk3).tr0 hk4
  have hr4 := hk14.blk hr (by simp)
  have hlen : (ints (heldS S ((pgS S).getD i.toNat 0))).length = 8 := by rw [ints_length, heldS_length h.len]
  refine pl_op rfl rfl (opTo_store _ rfl rfl rfl rfl (by rw [hlen]; decide +kernel) hr4 (by rw [hlen]; decide) (ints_one _) ?_)
  rw [splice_all (by rw [hlen]; rfl)]
  refine au ?_
  refine rn_ret Tryz.func205 (.inr (.inr (.inl ⟨_, _, _, rfl, rfl, loadVar_agg hT (cs := ints (heldS S ((pgS S).getD i.toNat 0))) (by rw [hlen]; rfl) ((hr4.set _).range (by simp))⟩))) ⟨?_, (hk1.tr0 hk14).setRow _ _ (.inr (Nat.le_refl _))⟩
  simp [readS, hb]
end
section
open Go.Proofs
abbrev Pg := Int × List Int
def pcell (p : Pg) : List Value := .int .i64 p.1 :: ints p.2
def pcells (l : List Pg) : List Value := l.flatMap pcell
theorem pcell_length {p : Pg} (h : p.2.length = 8) : (pcell p).length = 9 := by simp [pcell, ints_length, h]
theorem pcell_one (p : Pg) : ∀ u ∈ pcell p, u.oneCell' = true := by
 intro u hu
 rcases List.mem_cons.1 hu with rfl | hu
 ·rfl
 ·exact ints_one p.2 u hu
structure Pgs (B : Nat) (w : World) (v : Value) (ps : List Pg) : Prop where
 ex : ∃ a cap, v = .slice a ps.length cap ∧ (ps ≠ [] → ∃ b q, a = some ⟨b, q, none⟩ ∧ b < B ∧ w.rangeAt b q (pcells ps))
 wf : ∀ p ∈ ps, p.2.length = 8
 le : B ≤ w.heap.size
theorem Pgs.keep {B : Nat} {w w' : World} {v : Value} {ps : List Pg} {fp : List Nat} (h : Pgs B w v ps) (hk : Keep fp w w') (hn : ∀ k ∈ fp, B ≤ k) : Pgs B w' v ps := by
 obtain ⟨a, cap, hv, hm⟩ := h.ex
 refine ⟨⟨a, cap, hv, fun hne => ?_⟩, h.wf, Nat.le_trans h.le hk.size⟩
 obtain ⟨b, q, ha, hlt, hr⟩ := hm hne
 exact ⟨b, q, ha, hlt, hk.range hr (Nat.lt_of_lt_of_le hlt h.le) fun hm => by have := hn b hm; omega⟩
theorem Pgs.at {B : Nat} {w : World} {v : Value} {ps : List Pg} (h : Pgs B w v ps) {j : Nat} {p : Pg} (hp : ps[j]? = some p) :
  ∃ b q cap, v = .slice (some ⟨b, q, none⟩) ps.length cap ∧ b < B ∧ w.rangeAt b (q + j * 9) (pcell p) := by
 obtain ⟨a, cap, hv, hm⟩ := h.ex
 obtain ⟨b, q, ha, hlt, hr⟩ := hm (by intro e; simp [e] at hp)
 refine ⟨b, q, cap, by rw [hv, ha], hlt, range_sub hr (j * 9) ?_⟩
 rw [pcell_length (h.wf p (List.mem_of_getElem? hp))]
 exact flat_at (fun q hq => pcell_length (h.wf q hq)) hp
def chkFrom (done : List Int) : List Pg → Int
 | [] => 0
 | p :: r => if hasP p.1 = false then 1 else if done.contains p.1 then 9 else chkFrom (done ++ [p.1]) r
def chk (ps : List Pg) : Int := chkFrom [] ps
def bools (l : List Bool) : List Value := l.map fun b => .bool b
theorem bools_length (l : List Bool) : (bools l).length = l.length := by simp [bools]
theorem bools_one (l : List Bool) : ∀ u ∈ bools l, u.oneCell' = true := by
 intro u hu
 simp only [bools, List.mem_map] at hu
 obtain ⟨x, _, rfl⟩ := hu
 rfl
theorem splice_bools (l : List Bool) (i : Nat) (b : Bool) (h : i < l.length) : splice (bools l) i [.bool b] = bools (l.set i b) := by
 rw [List.set_eq_take_append_cons_drop, if_pos h]
 simp [splice, bools, List.map_take, List.map_drop]
def ahead (done : List Int) : List Bool := (List.range 14).map fun i => done.contains ((i : Nat) : Int)
theorem ahead_length (done : List Int) : (ahead done).length = 14 := by simp [ahead]
theorem ahead_set (done : List Int) {i : Int} (h : hasP i = true) : (ahead done).set i.toNat true = ahead (done ++ [i]) := by
 simp [hasP] at h
 apply List.ext_getElem
 ·simp [ahead]
 ·intro k h1 h2
  simp only [List.length_set, ahead_length] at h1
  simp only [List.getElem_set, ahead, List.getElem_map, List.getElem_range]
  by_cases e : i.toNat = k
  ·have : i = (k : Int) := by omega
   simp [this]
  ·have : ¬ ((k : Int) = i) := by omega
   simp [e, this]
theorem ahead_at (done : List Int) {i : Int} (h : hasP i = true) : (ahead done)[i.toNat]? = some (done.contains i) := by
 simp [hasP] at h
 rw [List.getElem?_eq_getElem (by rw [ahead_length]; omega)]
 simp only [ahead, List.getElem_map, List.getElem_range]
 rw [show ((i.toNat : Nat) : Int) = i by omega]
theorem zero_ahead : ((Tryz.prog.info? 281).bind (·.zero)).map (·.cells) = some (bools (List.replicate 14 false)).toArray := by kernel_rfl
theorem zero_page : ((Tryz.prog.info? 337).bind (·.zero)).map (·.cells) = some (pcell (0, List.replicate 8 0)).toArray := by kernel_rfl
theorem ahead_nil : ahead [] = List.replicate 14 false := by decide
theorem take_succ_map {ps : List Pg} {j : Nat} {p : Pg} (hp : ps[j]? = some p) : (ps.take (j + 1)).map (·.1) = (ps.take j).map (·.1) ++ [p.1] := by
 have hlt : j < ps.length := (List.getElem?_eq_some_iff.1 hp).1
 have hj : ps[j] = p := (List.getElem?_eq_some_iff.1 hp).2
 rw [List.take_succ_eq_append_getElem hlt, hj]
 simp
theorem drop_at {α : Type} {ps : List α} {j : Nat} {p : α} (hp : ps[j]? = some p) : ps.drop j = p :: ps.drop (j + 1) := by
 have hlt : j < ps.length := (List.getElem?_eq_some_iff.1 hp).1
 have hj : ps[j] = p := (List.getElem?_eq_some_iff.1 hp).2
 rw [List.drop_eq_getElem_cons hlt, hj]
theorem sCheck_ret {B : Nat} {w : World} {v : Value} {ps : List Pg} (h : Pgs B w v ps) (hlen : ps.length < 1000000) :
  Ret Tryz.prog 273 [v] w fun r w' => r = .int .i64 (chk ps) ∧ Keep [] w w' := by
 refine ret_of 24 Tryz.func273 rfl rfl (by simp) ?_
 refine au ?_
 refine pl_op rfl rfl (opTo_alloc _ rfl zero_ahead ?_)
 have hk1 : Keep [] w (w.alloc (.cells (bools (List.replicate 14 false)).toArray 281)) := (Keep.refl _ _).alloc _
 have ha1 := Blk.new w (bools (List.replicate 14 false)) 281
 rw [← ahead_nil] at ha1 hk1 ⊢
 generalize (w.alloc (.cells (bools (ahead [])).toArray 281)) = w1 at *
 refine au ?_
 obtain ⟨va, vcap, hv, _⟩ := h.ex
 refine pl_val (.int .i64 ps.length) rfl rfl (val_pure hT (by rw [hv]; rfl) w1) ?_
 refine au ?_
 refine rn_ind (fun m σ w' => ∃ j, m = ps.length - j ∧ j ≤ ps.length ∧ σ = [(3, .pointer (some ⟨w.heap.size, 0, none⟩)), (6, v), (7, .int .i64 ps.length), (8, .int .i64 (j : Nat))] ∧
   Keep [] w w' ∧ Blk w' w.heap.size (bools (ahead ((ps.take j).map (·.1)))) 281 ∧ chk ps = chkFrom ((ps.take j).map (·.1)) (ps.drop j))
  (ps.length - 0) _ ?_ ⟨0, rfl, Nat.zero_le _, rfl, hk1, by simpa using ha1, by simp [chk]⟩ ?_
 ·exact ⟨rfl, rfl, rfl, rfl, trivial⟩
 clear hk1 ha1
 rintro m σ w2 ih ⟨j, hm, hj, rfl, hk2, ha2, hc⟩
 refine au ?_
 rcases Nat.lt_or_ge j ps.length with hlt | hge
 ·refine pl_val (.bool true) rfl rfl (val_int .i64 _ _ _ rfl rfl rfl (by simp [intOp, hlt]) w2) ?_
  refine au ?_
  obtain ⟨p, hp⟩ : ∃ p, ps[j]? = some p := ⟨ps[j], List.getElem?_eq_getElem hlt⟩
  obtain ⟨b, q, cap, hv', hb, hr⟩ := (h.keep hk2 (by simp)).at hp
  have h8 := h.wf p (List.mem_of_getElem? hp)
  rw [drop_at hp, chkFrom] at hc
  refine pl_val _ rfl rfl (val_index j hT rfl (by rw [hv']; rfl) rfl rfl rfl hlt w2) ?_
  refine pl_val (.agg (pcell p).toArray) rfl rfl (val_load _ hT rfl rfl (by rw [pcell_length h8]; rfl) hr) ?_
  refine pl_op rfl rfl (opTo_alloc _ rfl zero_page ?_)
  have hk3 := hk2.alloc (.cells (pcell (0, List.replicate 8 0)).toArray 337)
  have hx3 := Blk.new w2 (pcell (0, List.replicate 8 0)) 337
  have ha3 := ha2.alloc (.cells (pcell (0, List.replicate 8 0)).toArray 337)
  have hn : w.heap.size ≠ w2.heap.size := by have := ha2.lt; omega
  have hsz := hk2.size
  generalize (w2.alloc (.cells (pcell (0, List.replicate 8 0)).toArray 337)) = w3 at *
  refine au ?_
  refine pl_op rfl rfl (opTo_store _ rfl rfl rfl rfl (by rw [pcell_length h8]; decide +kernel) hx3 (by rw [pcell_length h8]; decide) (pcell_one _) ?_)
  rw [splice_all (by rw [pcell_length h8]; rfl)]
  have hk4 := hk3.setRow w2.heap.size (pcell p).toArray (.inr hsz)
  have hx4 := hx3.set (pcell p)
  have ha4 := ha3.other (pcell p).toArray hn
  generalize (w3.setRow w2.heap.size (pcell p).toArray) = w4 at *
  refine au ?_
  refine pl_val (.int .i64 p.1) rfl rfl (val_load1 hT rfl rfl rfl (hx4.cell rfl)) ?_
  refine pl_op rfl rfl (opTo_call rfl rfl rfl rfl (by decide +kernel) ((hasP_ret p.1 _).mono ?_))
  rintro v' w5 ⟨rfl, rfl⟩
  cases hb : hasP p.1 with
  | false =>
   refine au ?_
   rw [if_pos hb] at hc
   exact rn_ret Tryz.func273 (.inl ⟨_, rfl, rfl⟩) ⟨by rw [hc], hk4⟩
  | true =>
   have hi : 0 ≤ p.1 ∧ p.1 < 14 := by simpa [hasP] using hb
   rw [if_neg (by simp [hb])] at hc
   refine au ?_
   refine pl_val (.int .i64 p.1) rfl rfl (val_load1 hT rfl rfl rfl (hx4.cell rfl)) ?_
   refine pl_val _ rfl rfl (val_indexArr p.1.toNat hT rfl rfl rfl rfl (by omega) (by omega) w5) ?_
   refine pl_val (.bool (((ps.take j).map (·.1)).contains p.1)) rfl rfl (val_load1 hT rfl rfl rfl (ha4.cell (by rw [Nat.zero_add, Nat.mul_one]; simp only [bools, List.getElem?_map, ahead_at _ hb]; rfl))) ?_
   cases hd : ((ps.take j).map (·.1)).contains p.1 with
   | true =>
    rw [hd, if_pos rfl] at hc
    refine au ?_
    exact rn_ret Tryz.func273 (.inl ⟨_, rfl, rfl⟩) ⟨by rw [hc], hk4⟩
   | false =>
    rw [hd, if_neg (by simp)] at hc
    refine au ?_
    refine pl_val (.int .i64 p.1) rfl rfl (val_load1 hT rfl rfl rfl (hx4.cell rfl)) ?_
    refine pl_val _ rfl rfl (val_indexArr p.1.toNat hT rfl rfl rfl rfl (by omega) (by omega) w5) ?_
    refine pl_op rfl rfl (opTo_store [.bool true] rfl rfl rfl rfl (by decide +kernel) ha4 (by rw [bools_length, ahead_length]; simp; omega) (by simp; rfl) ?_)
    have e6 : splice (bools (ahead ((ps.take j).map (·.1)))) (0 + p.1.toNat * 1) [.bool true] = bools (ahead ((ps.take (j + 1)).map (·.1))) := by
     rw [Nat.zero_add, Nat.mul_one, splice_bools _ _ _ (by rw [ahead_length]; omega), ahead_set _ hb, ← take_succ_map hp]
    rw [e6]
    have hk6 := hk4.setRow w.heap.size (bools (ahead ((ps.take (j + 1)).map (·.1)))).toArray (.inr (Nat.le_refl _))
    have ha6 := ha4.set (bools (ahead ((ps.take (j + 1)).map (·.1))))
    generalize (w5.setRow w.heap.size (bools (ahead ((ps.take (j + 1)).map (·.1)))).toArray) = w6 at *
    refine au ?_
    refine pl_val (.int .i64 ((j + 1 : Nat) : Int)) rfl rfl (val_int .i64 j 1 _ rfl rfl rfl (by simp only [intOp]; rw [wrap_i64 (by omega) (by omega)]; rfl) w6) ?_
    refine au ?_
    refine rn_sub ?_ (ih (ps.length - (j + 1)) _ w6 (by omega) ⟨j + 1, rfl, hlt, rfl, hk6, ha6, by rw [take_succ_map hp]; exact hc⟩)
    exact ⟨rfl, rfl, rfl, rfl, trivial⟩
 ·refine pl_val (.bool false) rfl rfl (val_int .i64 _ _ _ rfl rfl rfl (by simp [intOp]; omega) w2) ?_
  refine au ?_
  refine rn_ret Tryz.func273 (.inl ⟨_, rfl, rfl⟩) ⟨?_, hk2⟩
  rw [hc, List.drop_eq_nil_of_le hge]
  rfl
end
section
open Go.Proofs
abbrev Deed := Option (Int × List Int)
def ccells (s : Nat) (N : List Int) (K : List Bool) (dv : Value) : List Value := [Value.pointer (some ⟨s, 0, none⟩)] ++ ints N ++ (bools K ++ [dv])
def mutT (e : Nat) : Bool := e == 342 || e == 1 || e == 258 || e == 320
structure Tch (B : Nat) (w w' : World) : Prop where
 os : w'.os = w.os
 tape : w'.tape = w.tape
 output : w'.output = w.output
 size : w.heap.size ≤ w'.heap.size
 low : ∀ k, k < B → w'.heap[k]? = w.heap[k]?
 typ : ∀ k L e, Blk w k L e → mutT e = false → Blk w' k L e
theorem Tch.refl (B : Nat) (w : World) : Tch B w w := ⟨rfl, rfl, rfl, Nat.le_refl _, fun _ _ => rfl, fun _ _ _ h _ => h⟩
theorem Tch.trans {B : Nat} {w w' w'' : World} (h : Tch B w w') (h' : Tch B w' w'') : Tch B w w'' :=
 ⟨h'.os.trans h.os, h'.tape.trans h.tape, h'.output.trans h.output, Nat.le_trans h.size h'.size, fun k hk => (h'.low k hk).trans (h.low k hk), fun k L e hb he => h'.typ k L e (h.typ k L e hb he) he⟩
theorem Keep.tch {B : Nat} {w w' : World} {fp : List Nat} (h : Keep fp w w') (hB : B ≤ w.heap.size) (hf : ∀ k ∈ fp, B ≤ k ∧ ∀ L e, Blk w k L e → mutT e = true) : Tch B w w' :=
 ⟨h.os, h.tape, h.output, h.size, fun k hk => h.block k (Nat.lt_of_lt_of_le hk hB) fun hm => by have := (hf k hm).1; omega, fun k L e hb he => h.blk hb fun hm => by
  rw [(hf k hm).2 L e hb] at he; cases he⟩
theorem Keep.tch0 {B : Nat} {w w' : World} (h : Keep [] w w') (hB : B ≤ w.heap.size) : Tch B w w' := h.tch hB (by simp)
theorem Tch.keep {B : Nat} {w0 w w' : World} (h0 : Keep [] w0 w) (h : Tch B w w') (hB : w0.heap.size ≤ B) : Keep [] w0 w' :=
 ⟨h.os.trans h0.os, h.tape.trans h0.tape, h.output.trans h0.output, Nat.le_trans h0.size h.size, fun k hk _ => (h.low k (Nat.lt_of_lt_of_le hk hB)).trans (h0.block k hk (by simp))⟩
def DeedV (w : World) (c : Nat) (fv : Value) : Deed → Prop
 | none => ∃ x, fv = .func (.func 286) #[] #[.pointer (some ⟨x, 0, none⟩)] ∧ Blk w x [.pointer (some ⟨c, 0, none⟩)] 334
 | some (a, ws) => ∃ x y z, fv = .func (.func 288) #[] #[.pointer (some ⟨x, 0, none⟩), .pointer (some ⟨y, 0, none⟩), .pointer (some ⟨z, 0, none⟩)] ∧
   Blk w x [.pointer (some ⟨c, 0, none⟩)] 334 ∧ Blk w y [.int .i64 a] 2 ∧ Blk w z (ints ws) 254 ∧ ws.length = 8
theorem DeedV.tch {B : Nat} {w w' : World} {c : Nat} {fv : Value} {d : Deed} (h : DeedV w c fv d) (hk : Tch B w w') : DeedV w' c fv d := by
 cases d with
 | none =>
  obtain ⟨x, h1, h2⟩ := h
  exact ⟨x, h1, hk.typ _ _ _ h2 (by decide)⟩
 | some p =>
  obtain ⟨x, y, z, h1, h2, h3, h4, h5⟩ := h
  exact ⟨x, y, z, h1, hk.typ _ _ _ h2 (by decide), hk.typ _ _ _ h3 (by decide), hk.typ _ _ _ h4 (by decide), h5⟩
def Fvs (w : World) (c : Nat) (fvs : List Value) (D : List Deed) : Prop := ∀ (j : Nat) (d : Deed), D[j]? = some d → ∃ fv, fvs[j]? = some fv ∧ DeedV w c fv d
structure ComV (B : Nat) (w : World) (c s : Nat) (N : List Int) (K : List Bool) (dv : Value) (fvs : List Value) (D : List Deed) : Prop where
 blk : Blk w c (ccells s N K dv) 342
 base : B ≤ c
 nlen : N.length = 17
 klen : K.length = 34
 own : Own w B 1 1 dv D.length fvs
 fs : Fvs w c fvs D
theorem Own.typ {w : World} {B e size n : Nat} {v : Value} {xs : List Value} (h : Own w B e size v n xs) : ∀ k ∈ v.ownBlock.toList, ∃ L, Blk w k L e := by
 intro k hk
 rcases h.2 with ⟨rfl, _⟩ | ⟨g, cap, cur, rfl, hb, hg, _⟩
 ·simp [Value.ownBlock] at hk
 ·simp [Value.ownBlock] at hk
  subst hk
  exact ⟨cur, hg⟩
theorem blk_typ {w : World} {k : Nat} {L L' : List Value} {e e' : TypeId} (h : Blk w k L e) (h' : Blk w k L' e') : e = e' := by
 by_cases he : e = e'
 ·exact he
 ·exact absurd rfl (Blk.ne h h' he)
theorem splice_mid (A M C vs : List Value) (i : Nat) (h : i + vs.length ≤ M.length) : splice (A ++ M ++ C) (A.length + i) vs = A ++ splice M i vs ++ C := by
 unfold splice
 have e1 : (A ++ M ++ C).take (A.length + i) = A ++ M.take i := by
  rw [List.append_assoc, List.take_length_add_append, List.take_append_of_le_length (by omega)]
 have e2 : (A ++ M ++ C).drop (A.length + i + vs.length) = M.drop (i + vs.length) ++ C := by
  rw [List.append_assoc, Nat.add_assoc, List.drop_length_add_append, List.drop_append_of_le_length (by omega)]
 rw [e1, e2]
 simp [List.append_assoc]
theorem splice_ints (l : List Int) (i : Nat) (x : Int) (h : i < l.length) : splice (ints l) i [.int .i64 x] = ints (l.set i x) := by
 rw [List.set_eq_take_append_cons_drop, if_pos h]
 simp [splice, ints, List.map_take, List.map_drop]
section
variable {B : Nat} {w w' : World} {c s : Nat} {N : List Int} {K : List Bool} {dv : Value} {fvs : List Value} {D : List Deed}
theorem ccells_length (hN : N.length = 17) (hK : K.length = 34) : (ccells s N K dv).length = 53 := by simp [ccells, ints_length, bools_length, hN, hK]
theorem ccells_setN (i : Nat) (x : Int) (h : i < N.length) : splice (ccells s N K dv) (1 + i) [.int .i64 x] = ccells s (N.set i x) K dv := by
 unfold ccells
 have := splice_mid [Value.pointer (some ⟨s, 0, none⟩)] (ints N) (bools K ++ [dv]) [.int .i64 x] i (by simp [ints_length]; omega)
 rw [splice_ints _ _ _ h] at this
 exact this
theorem ccells_setK (hN : N.length = 17) (i : Nat) (b : Bool) (h : i < K.length) : splice (ccells s N K dv) (18 + i) [.bool b] = ccells s N (K.set i b) dv := by
 unfold ccells
 have := splice_mid ([Value.pointer (some ⟨s, 0, none⟩)] ++ ints N) (bools K) [dv] [.bool b] i (by simp [bools_length]; omega)
 rw [splice_bools _ _ _ h] at this
 simpa [ints_length, hN, List.append_assoc] using this
theorem ccells_setD (hN : N.length = 17) (hK : K.length = 34) (dv' : Value) : splice (ccells s N K dv) 52 [dv'] = ccells s N K dv' := by
 unfold ccells
 have := splice_mid ([Value.pointer (some ⟨s, 0, none⟩)] ++ ints N ++ bools K) [dv] [] [dv'] 0 (by simp)
 have e : splice [dv] 0 [dv'] = [dv'] := rfl
 rw [e] at this
 simpa [ints_length, bools_length, hN, hK, List.append_assoc] using this
theorem ComV.cellS (h : ComV B w c s N K dv fvs D) : w.cell? ⟨c, 0, none⟩ = some (.pointer (some ⟨s, 0, none⟩)) := h.blk.cell rfl
theorem ComV.cellN (h : ComV B w c s N K dv fvs D) {i : Nat} {x : Int} (hx : N[i]? = some x) : w.cell? ⟨c, 1 + i, none⟩ = some (.int .i64 x) := h.blk.cell (by
 have hlt : i < N.length := (List.getElem?_eq_some_iff.1 hx).1
 have hx2 := (List.getElem?_eq_some_iff.1 hx).2
 simp only [ccells]
 rw [List.getElem?_append_left (by simp [ints_length]; omega), List.getElem?_append_right (by simp)]
 simp [ints, hx])
theorem ComV.cellK (h : ComV B w c s N K dv fvs D) {i : Nat} {x : Bool} (hx : K[i]? = some x) : w.cell? ⟨c, 18 + i, none⟩ = some (.bool x) := h.blk.cell (by
 have hlt : i < K.length := (List.getElem?_eq_some_iff.1 hx).1
 simp only [ccells]
 rw [List.getElem?_append_right (by simp [ints_length, h.nlen]), List.getElem?_append_left (by simp [ints_length, bools_length, h.nlen]; omega)]
 simp [ints_length, h.nlen, bools, hx])
theorem ComV.cellD (h : ComV B w c s N K dv fvs D) : w.cell? ⟨c, 52, none⟩ = some dv := h.blk.cell (by
 simp only [ccells]
 rw [List.getElem?_append_right (by simp [ints_length, h.nlen]), List.getElem?_append_right (by simp [ints_length, bools_length, h.nlen, h.klen])]
 simp [ints_length, bools_length, h.nlen, h.klen])
theorem ComV.rangeN (h : ComV B w c s N K dv fvs D) (i m : Nat) (him : i + m ≤ 17) : w.rangeAt c (1 + i) (ints ((N.drop i).take m)) := h.blk.range (by
 have h17 := h.nlen
 rw [ints_length, List.length_take, List.length_drop, h17, Nat.min_eq_left (by omega)]
 simp only [ccells]
 rw [List.drop_append_of_le_length (by simp [ints_length, h17]; omega), List.take_append_of_le_length (by simp [ints_length, h17]; omega), Nat.add_comm 1 i]
 simp [ints, List.map_take, List.map_drop])
theorem ComV.notDv (h : ComV B w c s N K dv fvs D) : ∀ k, dv.ownBlock = some k → k ≠ c := fun k hk e => by
 obtain ⟨L, hL⟩ := h.own.typ k (by simp [hk])
 subst e
 exact absurd (blk_typ hL h.blk) (by decide)
theorem ComV.keep {fp : List Nat} (h : ComV B w c s N K dv fvs D) (hk : Keep fp w w') (hf : ∀ k ∈ fp, ∀ L e, Blk w k L e → e = 258 ∨ e = 320) : ComV B w' c s N K dv fvs D := by
 refine ⟨hk.blk h.blk fun hm => ?_, h.base, h.nlen, h.klen, h.own.keep hk fun k e hm => ?_, fun j d hd => ?_⟩
 ·have := hf c hm _ _ h.blk
  revert this; decide
 ·obtain ⟨L, hL⟩ := h.own.typ k (by simp [e])
  have := hf k hm _ _ hL
  revert this; decide
 ·obtain ⟨fv, h1, h2⟩ := h.fs j d hd
  refine ⟨fv, h1, ?_⟩
  have ht : Tch 0 w w' := hk.tch (Nat.zero_le _) fun k hm => ⟨Nat.zero_le _, fun L e hb => by
   rcases hf k hm L e hb with rfl | rfl <;> decide⟩
  exact h2.tch ht
theorem ComV.keep0 (h : ComV B w c s N K dv fvs D) (hk : Keep [] w w') : ComV B w' c s N K dv fvs D := h.keep hk (by simp)
theorem ComV.put (h : ComV B w c s N K dv fvs D) (N' : List Int) (K' : List Bool) (hN : N'.length = 17) (hK : K'.length = 34) :
  ComV B (w.setRow c (ccells s N' K' dv).toArray) c s N' K' dv fvs D ∧ Tch B w (w.setRow c (ccells s N' K' dv).toArray) ∧ Keep [c] w (w.setRow c (ccells s N' K' dv).toArray) := by
 have hk : Keep [c] w (w.setRow c (ccells s N' K' dv).toArray) := (Keep.refl _ _).setRow _ _ (.inl (by simp))
 have hB : B ≤ w.heap.size := Nat.le_trans h.base (Nat.le_of_lt h.blk.lt)
 have ht : Tch B w (w.setRow c (ccells s N' K' dv).toArray) := hk.tch hB fun k hm => by
  simp at hm
  subst hm
  exact ⟨h.base, fun L e hb => by rw [blk_typ hb h.blk]; decide⟩
 refine ⟨⟨h.blk.set _, h.base, hN, hK, h.own.keep hk fun k e => by simpa using h.notDv k e, fun j d hd => ?_⟩, ht, hk⟩
 obtain ⟨fv, h1, h2⟩ := h.fs j d hd
 exact ⟨fv, h1, h2.tch ht⟩
end
def takeK (K : List Bool) (a : Int) : List Bool := if hasB a then K.set a.toNat true else K
theorem takeK_length (K : List Bool) (a : Int) : (takeK K a).length = K.length := by unfold takeK; split <;> simp
theorem take_ret {B : Nat} {w : World} {c s : Nat} {N : List Int} {K : List Bool} {dv : Value} {fvs : List Value} {D : List Deed} (h : ComV B w c s N K dv fvs D) (a : Int) :
  Ret Tryz.prog 283 [.pointer (some ⟨c, 0, none⟩), .int .i64 a] w fun v w' => v = .tuple #[] ∧ ComV B w' c s N (takeK K a) dv fvs D ∧ Tch B w w' := by
 refine ret_of 11 Tryz.func283 rfl rfl (by simp) ?_
 refine au ?_
 refine pl_op rfl rfl (opTo_call rfl rfl rfl rfl (by decide +kernel) ((dHas_ret a _).mono ?_))
 rintro v w1 ⟨rfl, rfl⟩
 cases hb : hasB a with
 | false =>
  refine au ?_
  exact rn_end Tryz.func283 (.inr (.inl ⟨rfl, rfl⟩)) ⟨rfl, by rw [takeK, hb]; exact h, Tch.refl _ _⟩
 | true =>
  have hi : 0 ≤ a ∧ a < 34 := by simpa [hasB] using hb
  refine au ?_
  refine pl_val _ rfl rfl (val_indexArr a.toNat hT rfl rfl rfl rfl (by omega) (by omega) w1) ?_
  refine pl_op rfl rfl (opTo_store [.bool true] rfl rfl rfl rfl (by decide +kernel) h.blk (by rw [ccells_length h.nlen h.klen]; simp; omega) (by simp; rfl) ?_)
  have e : splice (ccells s N K dv) (0 + 18 + a.toNat * 1) [.bool true] = ccells s N (takeK K a) dv := by
   rw [Nat.zero_add, Nat.mul_one, ccells_setK h.nlen _ _ (by rw [h.klen]; omega), takeK, hb]
   rfl
  rw [e]
  refine au ?_
  obtain ⟨h1, h2, _⟩ := h.put N (takeK K a) h.nlen (by rw [takeK_length, h.klen])
  exact rn_end Tryz.func283 (.inr (.inl ⟨rfl, rfl⟩)) ⟨rfl, h1, h2⟩
end
section
open Go.Proofs
theorem lay1_ret {B : Nat} {w : World} {c s x : Nat} {N : List Int} {K : List Bool} {dv : Value} {fvs : List Value} {D : List Deed} (h : ComV B w c s N K dv fvs D) (hx : Blk w x [.pointer (some ⟨c, 0, none⟩)] 334) (j : Nat) (hj : j < 34) :
  Ret Tryz.prog 285 [.int .i64 (j : Nat), .pointer (some ⟨x, 0, none⟩)] w fun v w' => v = .bool (!K.getD j false) ∧ w' = w := by
 refine ret_of 11 Tryz.func285 rfl rfl (by simp) ?_
 refine au ?_
 refine pl_val (.pointer (some ⟨c, 0, none⟩)) rfl rfl (val_load1 hT rfl rfl rfl (hx.cell rfl)) ?_
 refine au ?_
 refine pl_val _ rfl rfl (val_indexArr j hT rfl rfl rfl rfl rfl hj w) ?_
 have hc := h.cellK (i := j) (x := K.getD j false) (by rw [List.getD_eq_getElem?_getD, List.getElem?_eq_getElem (by rw [h.klen]; exact hj)]; rfl)
 refine pl_val (.bool (K.getD j false)) rfl rfl (val_load1 hT rfl rfl rfl (by rw [Nat.zero_add, Nat.mul_one]; exact hc)) ?_
 refine au ?_
 exact rn_ret Tryz.func285 (.inl ⟨_, rfl, rfl⟩) ⟨rfl, rfl⟩
def firstOf (f : Nat → Bool) : Nat := ((List.range 34).find? f).getD 0
theorem firstOf_some {f : Nat → Bool} {j : Nat} (hj : j < 34) (h : ∀ k, k < j → f k = false) (hf : f j = true) : firstOf f = j := by
 have : (List.range 34).find? f = some j := by
  rw [List.find?_range_eq_some]
  exact ⟨hf, List.mem_range.2 hj, fun k hk => by simp [h k hk]⟩
 simp [firstOf, this]
theorem firstOf_none {f : Nat → Bool} (h : ∀ k, k < 34 → f k = false) : firstOf f = 0 := by
 have : (List.range 34).find? f = none := by
  rw [List.find?_eq_none]
  intro k hk
  simp [h k (List.mem_range.1 hk)]
 simp [firstOf, this]
theorem first_ret {w : World} (f : Nat → Bool) (g : Nat) (cap : List Value) (hg : callable Tryz.prog g = true) (hclo : ∀ j, j < 34 → Ret Tryz.prog g (.int .i64 (j : Nat) :: cap) w fun v w' => v = .bool (f j) ∧ w' = w) :
  Ret Tryz.prog 284 [.func (.func g) #[] cap.toArray] w fun v w' => v = .int .i64 (firstOf f : Nat) ∧ w' = w := by
 refine ret_of 12 Tryz.func284 rfl rfl (by simp) ?_
 refine au ?_
 refine rn_ind (fun m σ w' => ∃ j, m = 34 - j ∧ j ≤ 34 ∧ σ = [(0, .func (.func g) #[] cap.toArray), (4, .int .i64 (j : Nat))] ∧ w' = w ∧ ∀ k, k < j → f k = false)
  (34 - 0) _ ?_ ⟨0, rfl, by decide, rfl, rfl, by simp⟩ ?_
 ·exact ⟨rfl, rfl, trivial⟩
 rintro m σ w2 ih ⟨j, hm, hj, rfl, rfl, hno⟩
 refine au ?_
 rcases Nat.lt_or_ge j 34 with hlt | hge
 ·refine pl_val (.bool true) rfl rfl (val_int .i64 _ _ _ rfl rfl rfl (by simp [intOp]; omega) w2) ?_
  refine au ?_
  refine pl_op rfl rfl (opTo_call rfl rfl rfl rfl hg ((hclo j hlt).mono ?_))
  rintro v w3 ⟨rfl, rfl⟩
  cases hf : f j with
  | true =>
   refine au ?_
   exact rn_ret Tryz.func284 (.inl ⟨_, rfl, rfl⟩) ⟨by rw [firstOf_some hlt hno hf], rfl⟩
  | false =>
   refine au ?_
   refine pl_val (.int .i64 ((j + 1 : Nat) : Int)) rfl rfl (val_int .i64 j 1 _ rfl rfl rfl (by simp only [intOp]; rw [wrap_i64 (by omega) (by omega)]; rfl) w3) ?_
   refine au ?_
   refine rn_sub ?_ (ih (34 - (j + 1)) _ w3 (by omega) ⟨j + 1, rfl, hlt, rfl, rfl, fun k hk => ?_⟩)
   ·exact ⟨rfl, rfl, trivial⟩
   ·rcases Nat.lt_or_ge k j with h | h
    ·exact hno k h
    ·have : k = j := by omega
     rw [this]; exact hf
 ·refine pl_val (.bool false) rfl rfl (val_int .i64 _ _ _ rfl rfl rfl (by simp [intOp]; omega) w2) ?_
  refine au ?_
  exact rn_ret Tryz.func284 (.inl ⟨_, rfl, rfl⟩) ⟨by rw [firstOf_none fun k hk => hno k (by omega)]; rfl, rfl⟩
theorem ccells_atD {s : Nat} {N : List Int} {K : List Bool} {dv : Value} (hN : N.length = 17) (hK : K.length = 34) : (ccells s N K dv)[0 + 52]? = some dv := by
 simp only [ccells]
 rw [List.getElem?_append_right (by simp [ints_length, hN]), List.getElem?_append_right (by simp [ints_length, bools_length, hN, hK])]
 simp [ints_length, bools_length, hN, hK]
theorem ComV.app1 {B : Nat} {w w1 : World} {c s g : Nat} {N : List Int} {K : List Bool} {dv : Value} {fvs : List Value} {D : List Deed} (h : ComV B w c s N K dv fvs D)
  (hor : (dv.ownBlock = some g ∧ D.length + 1 ≤ capOf dv ∧ Keep [g] w w1) ∨ (g = w.heap.size ∧ Keep [] w w1 ∧ w1.heap.size = w.heap.size + 1)) : Tch B w w1 := by
 have hB : B ≤ w.heap.size := Nat.le_trans h.base (Nat.le_of_lt h.blk.lt)
 rcases hor with ⟨e, _, hk⟩ | ⟨e, hk, _⟩
 ·refine hk.tch hB fun k hm => ?_
  simp at hm
  subst hm
  obtain ⟨L, hL⟩ := h.own.typ k (by simp [e])
  exact ⟨(h.own.lt k e).1, fun L' e' hb => by rw [blk_typ hb hL]; decide⟩
 ·exact hk.tch0 hB
theorem ComV.app {B : Nat} {w w1 : World} {c s g cap : Nat} {N : List Int} {K : List Bool} {dv fv : Value} {fvs : List Value} {D : List Deed} {d : Deed} (h : ComV B w c s N K dv fvs D) (hd : DeedV w c fv d)
  (hown : Own w1 B 1 1 (.slice (some ⟨g, 0, none⟩) (D.length + 1) cap) (D.length + 1) (fvs ++ [fv]))
  (hor : (dv.ownBlock = some g ∧ D.length + 1 ≤ capOf dv ∧ Keep [g] w w1) ∨ (g = w.heap.size ∧ Keep [] w w1 ∧ w1.heap.size = w.heap.size + 1)) :
  Blk w1 c (ccells s N K dv) 342 ∧ ComV B (w1.setRow c (ccells s N K (.slice (some ⟨g, 0, none⟩) (D.length + 1) cap)).toArray) c s N K (.slice (some ⟨g, 0, none⟩) (D.length + 1) cap) (fvs ++ [fv]) (D ++ [d]) ∧
   Tch B w (w1.setRow c (ccells s N K (.slice (some ⟨g, 0, none⟩) (D.length + 1) cap)).toArray) := by
 have hB : B ≤ w.heap.size := Nat.le_trans h.base (Nat.le_of_lt h.blk.lt)
 obtain ⟨hk, ht1⟩ : Keep [g] w w1 ∧ Tch B w w1 := by
  rcases hor with ⟨e, _, hk⟩ | ⟨e, hk, _⟩
  ·refine ⟨hk, hk.tch hB fun k hm => ?_⟩
   simp at hm
   subst hm
   obtain ⟨L, hL⟩ := h.own.typ k (by simp [e])
   exact ⟨(h.own.lt k e).1, fun L' e' hb => by rw [blk_typ hb hL]; decide⟩
  ·exact ⟨hk.of0, hk.tch0 hB⟩
 have hcg : c ≠ g := by
  rcases hor with ⟨e, _, _⟩ | ⟨e, _, _⟩
  ·exact fun h' => h.notDv g e h'.symm
  ·have := h.blk.lt; omega
 have hb1 : Blk w1 c (ccells s N K dv) 342 := hk.blk h.blk (by simpa using hcg)
 have hk2 : Keep [c] w1 (w1.setRow c (ccells s N K (.slice (some ⟨g, 0, none⟩) (D.length + 1) cap)).toArray) := (Keep.refl _ _).setRow _ _ (.inl (by simp))
 have ht2 : Tch B w1 (w1.setRow c (ccells s N K (.slice (some ⟨g, 0, none⟩) (D.length + 1) cap)).toArray) := hk2.tch (Nat.le_trans hB hk.size) fun k hm => by
  simp at hm
  subst hm
  exact ⟨h.base, fun L e hb => by rw [blk_typ hb hb1]; decide⟩
 refine ⟨hb1, ⟨hb1.set _, h.base, h.nlen, h.klen, ?_, ?_⟩, ht1.trans ht2⟩
 ·have := hown.keep hk2 (fun k e => by simp [Value.ownBlock] at e; subst e; simpa using Ne.symm hcg)
  simpa using this
 ·intro j d' hj
  have hlen : fvs.length = D.length := by simpa using h.own.1
  rcases Nat.lt_or_ge j D.length with hlt | hge
  ·rw [List.getElem?_append_left hlt] at hj
   obtain ⟨fv', h1, h2⟩ := h.fs j d' hj
   exact ⟨fv', by rw [List.getElem?_append_left (by omega)]; exact h1, (h2.tch ht1).tch ht2⟩
  ·rw [List.getElem?_append_right hge] at hj
   have h0 : j - D.length = 0 := by
    rcases Nat.eq_zero_or_pos (j - D.length) with h0 | h0
    ·exact h0
    ·rw [List.getElem?_eq_none (by simp; omega)] at hj; cases hj
   rw [h0] at hj
   simp at hj
   subst hj
   exact ⟨fv, by rw [List.getElem?_append_right (by omega), hlen, h0]; rfl, (hd.tch ht1).tch ht2⟩
theorem slice_deed (fv : Value) (h : fv.oneCell' = true) : sliceCells Tryz.prog 340 1 [(0, fv)] = some (1, [fv].toArray) := by
 cases fv <;> first | (cases h; done) | kernel_rfl
theorem cflush_ret {B : Nat} {w : World} {c s : Nat} {N : List Int} {K : List Bool} {dv : Value} {fvs : List Value} {D : List Deed} (h : ComV B w c s N K dv fvs D) (hD : D.length < 1000) :
  Ret Tryz.prog 277 [.pointer (some ⟨c, 0, none⟩)] w fun v w' => v = .tuple #[] ∧ (∃ dv' fvs', ComV B w' c s N K dv' fvs' (D ++ [none])) ∧ Tch B w w' := by
 refine ret_of 12 Tryz.func277 rfl rfl (by simp) ?_
 refine au ?_
 refine pl_op rfl rfl (opTo_box [.pointer (some ⟨c, 0, none⟩)] rfl rfl rfl ?_)
 have hB : B ≤ w.heap.size := Nat.le_trans h.base (Nat.le_of_lt h.blk.lt)
 have hk1 : Keep [] w (w.alloc (.cells [Value.pointer (some ⟨c, 0, none⟩)].toArray 334)) := (Keep.refl _ _).alloc _
 have hx1 := Blk.new w [Value.pointer (some ⟨c, 0, none⟩)] 334
 have ht1 := hk1.tch0 hB
 have h1 := h.keep0 hk1
 generalize (w.alloc (.cells [Value.pointer (some ⟨c, 0, none⟩)].toArray 334)) = w1 at *
 have hB1 : B ≤ w1.heap.size := Nat.le_trans hB ht1.size
 generalize w.heap.size = x at hx1
 refine au ?_
 have hS0 : Blk w1.drew x [.pointer (some ⟨c, 0, none⟩)] 334 ∧ Blk w1.drew c (ccells s N K dv) 342 := ⟨hx1, h1.blk⟩
 have hcd : ∀ w', Blk w' c (ccells s N K dv) 342 → w'.cell? ⟨c, 0 + 52, none⟩ = some dv := fun w' hb => hb.cell (ccells_atD h.nlen h.klen)
 refine rn_draw (fun w' => Blk w' x [.pointer (some ⟨c, 0, none⟩)] 334 ∧ Blk w' c (ccells s N K dv) 342) [10] hMix ?_
 refine dr_val 0 (.pointer (some ⟨c, 0, none⟩)) rfl (by decide +kernel) rfl rfl (fun w' hk => val_load1 hT rfl rfl rfl (hk.1.cell rfl)) hS0 ?_
 refine dr_val 1 (.pointer (some ⟨c, 0, none⟩)) rfl (by decide +kernel) rfl rfl (fun w' hk => val_load1 hT rfl rfl rfl (hk.1.cell rfl)) hS0 ?_
 refine tk 2 ?_
 refine tk 3 ?_
 refine dr_val 4 dv rfl (by decide +kernel) rfl rfl (fun w' hk => val_load1 hT rfl rfl rfl (hcd w' hk.2)) hS0 ?_
 refine tk 5 ?_
 refine dr_op 6 rfl (by decide +kernel) rfl rfl (opTo_buildSlice _ [_] rfl rfl (slice_deed _ rfl) ⟨fun _ => ⟨hS0.1.alloc _, hS0.2.alloc _⟩, ?_⟩)
 have hk2 := ((Keep.refl [] w1).drew).alloc (.cells [Value.func (.func 286) #[] #[.pointer (some ⟨x, 0, none⟩)]].toArray 1)
 have hy2 := Blk.new w1.drew [Value.func (.func 286) #[] #[.pointer (some ⟨x, 0, none⟩)]] 1
 have h2 := h1.keep0 hk2
 have hx2 := hk2.blk hx1 (by simp)
 have ht2 := hk2.tch0 hB1
 have hB2 : B ≤ (w1.drew.alloc (.cells [Value.func (.func 286) #[] #[.pointer (some ⟨x, 0, none⟩)]].toArray 1)).heap.size := Nat.le_trans hB1 ht2.size
 have hd : DeedV (w1.drew.alloc (.cells [Value.func (.func 286) #[] #[.pointer (some ⟨x, 0, none⟩)]].toArray 1)) c (Value.func (.func 286) #[] #[.pointer (some ⟨x, 0, none⟩)]) none := ⟨x, rfl, hx2⟩
 refine dr_op 7 rfl (by decide +kernel) rfl rfl (opTo_app B 1 1 8 fvs [Value.func (.func 286) #[] #[.pointer (some ⟨x, 0, none⟩)]] rfl rfl rfl (by decide +kernel) h2.own (hy2.range rfl) rfl (by simp; rfl) (by decide) (by unfold maxLen; omega) (by omega) hB2 ?_)
 intro g cap w3 hown hor
 obtain ⟨hb3, h4, ht4⟩ := h2.app hd hown hor
 have ht3 := h2.app1 hor
 refine ⟨fun _ => ⟨ht3.typ _ _ _ hx2 (by decide), hb3⟩, ?_⟩
 refine tk 8 ?_
 refine tk 9 ?_
 refine dr_op 10 rfl (by decide +kernel) rfl rfl (opTo_store _ rfl rfl rfl rfl (by kernel_rfl) hb3 (by rw [ccells_length h.nlen h.klen]; simp) (by simp; rfl) ⟨fun hn => absurd (by simp) hn, ?_⟩)
 rw [show splice (ccells s N K dv) (0 + 52) [Value.slice (some ⟨g, 0, none⟩) (D.length + 1) cap] = ccells s N K (.slice (some ⟨g, 0, none⟩) (D.length + 1) cap) from ccells_setD h.nlen h.klen _]
 refine dr_done (by decide +kernel) ?_
 exact rn_end Tryz.func277 (.inr (.inl ⟨rfl, rfl⟩)) ⟨rfl, ⟨_, _, h4⟩, (ht1.trans ht2).trans ht4⟩
theorem cwrite_ret {B : Nat} {w : World} {c s : Nat} {N : List Int} {K : List Bool} {dv : Value} {fvs : List Value} {D : List Deed} (h : ComV B w c s N K dv fvs D) (hD : D.length < 1000) (a : Int) {ws : List Int} (hw : ws.length = 8) :
  Ret Tryz.prog 278 [.pointer (some ⟨c, 0, none⟩), .int .i64 a, .agg (ints ws).toArray] w fun v w' => v = .tuple #[] ∧ (∃ dv' fvs', ComV B w' c s N K dv' fvs' (D ++ [some (a, ws)])) ∧ Tch B w w' := by
 refine ret_of 16 Tryz.func278 rfl rfl (by simp) ?_
 refine au ?_
 refine pl_op rfl rfl (opTo_box [.pointer (some ⟨c, 0, none⟩)] rfl rfl rfl ?_)
 refine pl_op rfl rfl (opTo_box [.int .i64 a] rfl rfl rfl ?_)
 refine pl_op rfl rfl (opTo_box (ints ws) rfl rfl rfl ?_)
 have hB : B ≤ w.heap.size := Nat.le_trans h.base (Nat.le_of_lt h.blk.lt)
 rw [World.size_alloc, World.size_alloc, World.size_alloc]
 have hk1 : Keep [] w (((w.alloc (.cells [Value.pointer (some ⟨c, 0, none⟩)].toArray 334)).alloc (.cells [Value.int .i64 a].toArray 2)).alloc (.cells (ints ws).toArray 254)) := (((Keep.refl _ _).alloc _).alloc _).alloc _
 have hx1 := ((Blk.new w [Value.pointer (some ⟨c, 0, none⟩)] 334).alloc (.cells [Value.int .i64 a].toArray 2)).alloc (.cells (ints ws).toArray 254)
 have hy1 := (Blk.new (w.alloc (.cells [Value.pointer (some ⟨c, 0, none⟩)].toArray 334)) [Value.int .i64 a] 2).alloc (.cells (ints ws).toArray 254)
 have hz1 := Blk.new ((w.alloc (.cells [Value.pointer (some ⟨c, 0, none⟩)].toArray 334)).alloc (.cells [Value.int .i64 a].toArray 2)) (ints ws) 254
 rw [World.size_alloc] at hy1 hz1
 rw [World.size_alloc] at hz1
 have ht1 := hk1.tch0 hB
 have h1 := h.keep0 hk1
 generalize (((w.alloc (.cells [Value.pointer (some ⟨c, 0, none⟩)].toArray 334)).alloc (.cells [Value.int .i64 a].toArray 2)).alloc (.cells (ints ws).toArray 254)) = w1 at *
 have hB1 : B ≤ w1.heap.size := Nat.le_trans hB ht1.size
 generalize w.heap.size + 1 + 1 = z at hz1 ⊢
 generalize w.heap.size + 1 = y at hy1 ⊢
 generalize w.heap.size = x at hx1
 refine au ?_
 have hS0 : Blk w1.drew x [.pointer (some ⟨c, 0, none⟩)] 334 ∧ Blk w1.drew c (ccells s N K dv) 342 := ⟨hx1, h1.blk⟩
 have hcd : ∀ w', Blk w' c (ccells s N K dv) 342 → w'.cell? ⟨c, 0 + 52, none⟩ = some dv := fun w' hb => hb.cell (ccells_atD h.nlen h.klen)
 refine rn_draw (fun w' => Blk w' x [.pointer (some ⟨c, 0, none⟩)] 334 ∧ Blk w' c (ccells s N K dv) 342) [10] hMix ?_
 refine dr_val 0 (.pointer (some ⟨c, 0, none⟩)) rfl (by decide +kernel) rfl rfl (fun w' hk => val_load1 hT rfl rfl rfl (hk.1.cell rfl)) hS0 ?_
 refine dr_val 1 (.pointer (some ⟨c, 0, none⟩)) rfl (by decide +kernel) rfl rfl (fun w' hk => val_load1 hT rfl rfl rfl (hk.1.cell rfl)) hS0 ?_
 refine tk 2 ?_
 refine tk 3 ?_
 refine dr_val 4 dv rfl (by decide +kernel) rfl rfl (fun w' hk => val_load1 hT rfl rfl rfl (hcd w' hk.2)) hS0 ?_
 refine tk 5 ?_
 refine dr_op 6 rfl (by decide +kernel) rfl rfl (opTo_buildSlice _ [_] rfl rfl (slice_deed _ rfl) ⟨fun _ => ⟨hS0.1.alloc _, hS0.2.alloc _⟩, ?_⟩)
 have hk2 := ((Keep.refl [] w1).drew).alloc (.cells [Value.func (.func 288) #[] #[.pointer (some ⟨x, 0, none⟩), .pointer (some ⟨y, 0, none⟩), .pointer (some ⟨z, 0, none⟩)]].toArray 1)
 have hy2 := Blk.new w1.drew [Value.func (.func 288) #[] #[.pointer (some ⟨x, 0, none⟩), .pointer (some ⟨y, 0, none⟩), .pointer (some ⟨z, 0, none⟩)]] 1
 have h2 := h1.keep0 hk2
 have hx2 := hk2.blk hx1 (by simp)
 have ht2 := hk2.tch0 hB1
 have hB2 : B ≤ (w1.drew.alloc (.cells [Value.func (.func 288) #[] #[.pointer (some ⟨x, 0, none⟩), .pointer (some ⟨y, 0, none⟩), .pointer (some ⟨z, 0, none⟩)]].toArray 1)).heap.size := Nat.le_trans hB1 ht2.size
 have hd : DeedV (w1.drew.alloc (.cells [Value.func (.func 288) #[] #[.pointer (some ⟨x, 0, none⟩), .pointer (some ⟨y, 0, none⟩), .pointer (some ⟨z, 0, none⟩)]].toArray 1)) c (Value.func (.func 288) #[] #[.pointer (some ⟨x, 0, none⟩), .pointer (some ⟨y, 0, none⟩), .pointer (some ⟨z, 0, none⟩)]) (some (a, ws)) := ⟨x, y, z, rfl, hx2, hk2.blk hy1 (by simp), hk2.blk hz1 (by simp), hw⟩
 refine dr_op 7 rfl (by decide +kernel) rfl rfl (opTo_app B 1 1 8 fvs [Value.func (.func 288) #[] #[.pointer (some ⟨x, 0, none⟩), .pointer (some ⟨y, 0, none⟩), .pointer (some ⟨z, 0, none⟩)]] rfl rfl rfl (by decide +kernel) h2.own (hy2.range rfl) rfl (by simp; rfl) (by decide) (by unfold maxLen; omega) (by omega) hB2 ?_)
 intro g cap w3 hown hor
 obtain ⟨hb3, h4, ht4⟩ := h2.app hd hown hor
 have ht3 := h2.app1 hor
 refine ⟨fun _ => ⟨ht3.typ _ _ _ hx2 (by decide), hb3⟩, ?_⟩
 refine tk 8 ?_
 refine tk 9 ?_
 refine dr_op 10 rfl (by decide +kernel) rfl rfl (opTo_store _ rfl rfl rfl rfl (by kernel_rfl) hb3 (by rw [ccells_length h.nlen h.klen]; simp) (by simp; rfl) ⟨fun hn => absurd (by simp) hn, ?_⟩)
 rw [show splice (ccells s N K dv) (0 + 52) [Value.slice (some ⟨g, 0, none⟩) (D.length + 1) cap] = ccells s N K (.slice (some ⟨g, 0, none⟩) (D.length + 1) cap) from ccells_setD h.nlen h.klen _]
 refine dr_done (by decide +kernel) ?_
 exact rn_end Tryz.func278 (.inr (.inl ⟨rfl, rfl⟩)) ⟨rfl, ⟨_, _, h4⟩, (ht1.trans ht2).trans ht4⟩
def freeK (K : List Bool) : Nat := firstOf fun i => !K.getD i false
theorem lay_ret {B : Nat} {w : World} {c s : Nat} {N : List Int} {K : List Bool} {dv : Value} {fvs : List Value} {D : List Deed} (h : ComV B w c s N K dv fvs D) (hD : D.length < 1000) {ws : List Int} (hw : ws.length = 8) :
  Ret Tryz.prog 275 [.pointer (some ⟨c, 0, none⟩), .agg (ints ws).toArray] w fun v w' => v = .int .i64 (freeK K : Nat) ∧ (∃ dv' fvs', ComV B w' c s N (takeK K (freeK K : Nat)) dv' fvs' (D ++ [some (((freeK K : Nat) : Int), ws)])) ∧ Tch B w w' := by
 refine ret_of 16 Tryz.func275 rfl rfl (by simp) ?_
 refine au ?_
 refine pl_op rfl rfl (opTo_box [.pointer (some ⟨c, 0, none⟩)] rfl rfl rfl ?_)
 refine pl_op rfl rfl (opTo_box (ints ws) rfl rfl rfl ?_)
 have hB : B ≤ w.heap.size := Nat.le_trans h.base (Nat.le_of_lt h.blk.lt)
 rw [World.size_alloc]
 have hk1 : Keep [] w ((w.alloc (.cells [Value.pointer (some ⟨c, 0, none⟩)].toArray 334)).alloc (.cells (ints ws).toArray 254)) := ((Keep.refl _ _).alloc _).alloc _
 have hx1 := (Blk.new w [Value.pointer (some ⟨c, 0, none⟩)] 334).alloc (.cells (ints ws).toArray 254)
 have hz1 := Blk.new (w.alloc (.cells [Value.pointer (some ⟨c, 0, none⟩)].toArray 334)) (ints ws) 254
 rw [World.size_alloc] at hz1
 have ht1 := hk1.tch0 hB
 have h1 := h.keep0 hk1
 generalize ((w.alloc (.cells [Value.pointer (some ⟨c, 0, none⟩)].toArray 334)).alloc (.cells (ints ws).toArray 254)) = w1 at *
 generalize w.heap.size + 1 = z at hz1 ⊢
 generalize w.heap.size = x at hx1
 refine au ?_
 refine pl_op rfl rfl (opTo_call rfl rfl rfl rfl (by decide +kernel) ((first_ret (fun i => !K.getD i false) 285 [.pointer (some ⟨x, 0, none⟩)] (by decide +kernel) fun j hj => lay1_ret h1 hx1 j hj).mono ?_))
 rintro v w2 ⟨rfl, rfl⟩
 rw [show (firstOf fun i => !K.getD i false) = freeK K from rfl]
 refine au ?_
 refine pl_val (.pointer (some ⟨c, 0, none⟩)) rfl rfl (val_load1 hT rfl rfl rfl (hx1.cell rfl)) ?_
 refine au ?_
 refine pl_op rfl rfl (opTo_call rfl rfl rfl rfl (by decide +kernel) ((take_ret h1 (freeK K : Nat)).mono ?_))
 rintro v w3 ⟨rfl, h3, ht3⟩
 have hx3 := ht3.typ _ _ _ hx1 (by decide)
 have hz3 := ht3.typ _ _ _ hz1 (by decide)
 refine au ?_
 refine pl_val (.pointer (some ⟨c, 0, none⟩)) rfl rfl (val_load1 hT rfl rfl rfl (hx3.cell rfl)) ?_
 refine au ?_
 refine pl_val (.agg (ints ws).toArray) rfl rfl (val_load _ hT rfl rfl (by rw [ints_length, hw]; rfl) (hz3.range (by simp))) ?_
 refine pl_op rfl rfl (opTo_call rfl rfl rfl rfl (by decide +kernel) ((cwrite_ret h3 hD (freeK K : Nat) hw).mono ?_))
 rintro v w4 ⟨rfl, h4, ht4⟩
 refine au ?_
 exact rn_ret Tryz.func275 (.inl ⟨_, rfl, rfl⟩) ⟨rfl, h4, (ht1.trans ht3).trans ht4⟩
end
section
open Go.Proofs
def partW (N : List Int) (j : Nat) : List Int := (((N.drop (3 + j * 8)).take (14 - j * 8)) ++ z8).take 8
def rootW (N : List Int) : List Int := [N.getD 0 0, N.getD 1 0, N.getD 2 0, 0, 0, 0, 0, 0]
theorem list17 {l : List Int} (h : l.length = 17) : ∃ a b c d e f g i j k m n o p q r s, l = [a, b, c, d, e, f, g, i, j, k, m, n, o, p, q, r, s] := by
 match l, h with
 | [a, b, c, d, e, f, g, i, j, k, m, n, o, p, q, r, s], _ => exact ⟨a, b, c, d, e, f, g, i, j, k, m, n, o, p, q, r, s, rfl⟩
theorem partW_length {N : List Int} (_ : N.length = 17) (j : Nat) : (partW N j).length = 8 := by
 simp [partW, z8]
section
variable {B : Nat} {w : World} {c s : Nat} {N : List Int} {K : List Bool} {dv : Value} {fvs : List Value} {D : List Deed}
theorem partWords_ret (h : ComV B w c s N K dv fvs D) (j : Nat) (hj : j < 2) :
  Ret Tryz.prog 276 [.pointer (some ⟨c, 1, none⟩), .int .i64 (j : Nat)] w fun v w' => v = .agg (ints (partW N j)).toArray ∧ Keep [] w w' := by
 refine ret_of 15 Tryz.func276 rfl rfl (by simp) ?_
 refine au ?_
 refine pl_op rfl rfl (opTo_alloc _ rfl zero_words ?_)
 refine au ?_
 refine pl_op rfl rfl (opTo_alloc _ rfl zero_words ?_)
 rw [World.size_alloc]
 have hk1 : Keep [] w ((w.alloc (.cells (ints (List.replicate 8 0)).toArray 254)).alloc (.cells (ints (List.replicate 8 0)).toArray 254)) := ((Keep.refl _ _).alloc _).alloc _
 have hr1 := (Blk.new w (ints (List.replicate 8 0)) 254).alloc (.cells (ints (List.replicate 8 0)).toArray 254)
 have hx1 := Blk.new (w.alloc (.cells (ints (List.replicate 8 0)).toArray 254)) (ints (List.replicate 8 0)) 254
 rw [World.size_alloc] at hx1
 have h1 := h.keep0 hk1
 generalize ((w.alloc (.cells (ints (List.replicate 8 0)).toArray 254)).alloc (.cells (ints (List.replicate 8 0)).toArray 254)) = w1 at *
 refine au ?_
 refine rn_draw (fun _ => True) [] hMix ?_
 refine dr_any 0 _ rfl (by decide +kernel) rfl rfl (fun w' => val_sliceArr hT rfl rfl rfl w') ?_
 refine tk 1 ?_
 refine tk 2 ?_
 refine tk 3 ?_
 refine tk 4 ?_
 refine dr_any 5 (.int .i64 ((j * 8 : Nat) : Int)) rfl (by decide +kernel) rfl rfl (fun w' => val_int .i64 j 8 _ rfl rfl rfl (by simp only [intOp]; rw [wrap_i64 (by omega) (by omega)]; simp) w') ?_
 refine dr_any 6 _ rfl (by decide +kernel) rfl rfl (fun w' => val_sliceArrFrom (j * 8) hT rfl rfl rfl rfl rfl (by omega) w') ?_
 have hn := h.nlen
 have hcl : (((N.drop (3 + j * 8)).take (14 - j * 8)).take 8).length = Nat.min (14 - j * 8) 8 := by
  rw [List.length_take, List.length_take, List.length_drop, hn]
  simp only [Nat.min_def]
  repeat' split
  all_goals omega
 refine dr_op 7 rfl (by decide +kernel) rfl rfl (opTo_copy (ints (((N.drop (3 + j * 8)).take (14 - j * 8)).take 8)) rfl rfl rfl (by decide +kernel) hx1.drew (by rw [ints_length, hcl]) ?_ (by rw [ints_length, hcl]; simp only [ints_length, List.length_replicate, Nat.zero_add]; exact Nat.min_le_right _ _) (ints_one _) fun r => ⟨fun _ => trivial, ?_⟩)
 ·have := (h1.keep0 ((Keep.refl [] w1).drew)).rangeN (3 + j * 8) (14 - j * 8) (by omega)
  refine rangeAt_take (cs := ints ((N.drop (3 + j * 8)).take (14 - j * 8))) ?_ ?_
  ·have e : 1 + (3 + j * 8) = 1 + 3 + j * 8 * 1 := by omega
   rw [← e]; exact this
  ·rw [ints_length, hcl]
   simp only [ints, List.map_take]
   rw [List.take_take, List.take_take]
   apply List.take_eq_take_iff.2
   simp only [List.length_map, List.length_drop, hn]
   simp only [Nat.min_def]
   repeat' split
   all_goals omega
 refine dr_done (by decide +kernel) ?_
 have e : splice (ints (List.replicate 8 0)) 0 (ints (((N.drop (3 + j * 8)).take (14 - j * 8)).take 8)) = ints (partW N j) := by
  have hj2 : j = 0 ∨ j = 1 := by omega
  obtain ⟨a, b, c, d, e, f, g, i, j, k, m, n, o, p, q, r, s, rfl⟩ := list17 hn
  rcases hj2 with rfl | rfl <;> rfl
 rw [e]
 have h8 := partW_length hn j
 have hx2 := hx1.drew.set (ints (partW N j))
 have hr2 := hr1.drew.other (ints (partW N j)).toArray (c := w.heap.size + 1) (by omega)
 have hk2 := (hk1.drew).setRow (w.heap.size + 1) (ints (partW N j)).toArray (.inr (by omega))
 generalize (w1.drew.setRow (w.heap.size + 1) (ints (partW N j)).toArray) = w2 at *
 refine au ?_
 refine pl_val (.agg (ints (partW N j)).toArray) rfl rfl (val_load _ hT rfl rfl (by rw [ints_length, h8]; rfl) (hx2.range (by simp))) ?_
 refine pl_op rfl rfl (opTo_store _ rfl rfl rfl rfl (by rw [ints_length, h8]; decide +kernel) hr2 (by rw [ints_length, h8]; decide) (ints_one _) ?_)
 rw [splice_all (by rw [ints_length, h8]; rfl)]
 refine au ?_
 exact rn_ret Tryz.func276 (.inr (.inr (.inl ⟨_, _, _, rfl, rfl, loadVar_agg hT (cs := ints (partW N j)) (by rw [ints_length, h8]; rfl) ((hr2.set _).range (by simp))⟩))) ⟨rfl, hk2.setRow _ _ (.inr (Nat.le_refl _))⟩
theorem rootAt_ret (h : ComV B w c s N K dv fvs D) :
  Ret Tryz.prog 279 [.pointer (some ⟨c, 1, none⟩)] w fun v w' => v = .int .i64 ((N.getD 0 0).tmod 2) ∧ w' = w := by
 refine ret_of 8 Tryz.func279 rfl rfl (by simp) ?_
 refine au ?_
 have hc := h.cellN (i := 0) (x := N.getD 0 0) (by rw [List.getD_eq_getElem?_getD, List.getElem?_eq_getElem (by rw [h.nlen]; decide)]; rfl)
 refine pl_val (.int .i64 (N.getD 0 0)) rfl rfl (val_load1 hT rfl rfl rfl hc) ?_
 refine pl_val (.int .i64 ((N.getD 0 0).tmod 2)) rfl rfl (val_int .i64 _ 2 _ rfl rfl rfl (by simp [intOp]) w) ?_
 refine au ?_
 exact rn_ret Tryz.func279 (.inl ⟨_, rfl, rfl⟩) ⟨rfl, rfl⟩
theorem built_root (g : Int) : Tryz.prog.built 254 [(0, Value.int .i64 g)] = some (ints [g, 0, 0, 0, 0, 0, 0, 0]).toArray := by kernel_rfl
theorem rootWords_ret (h : ComV B w c s N K dv fvs D) :
  Ret Tryz.prog 280 [.pointer (some ⟨c, 1, none⟩)] w fun v w' => v = .agg (ints (rootW N)).toArray ∧ Keep [] w w' := by
 refine ret_of 16 Tryz.func280 rfl rfl (by simp) ?_
 refine au ?_
 refine pl_op rfl rfl (opTo_alloc _ rfl zero_words ?_)
 have hk1 : Keep [] w (w.alloc (.cells (ints (List.replicate 8 0)).toArray 254)) := (Keep.refl _ _).alloc _
 have hr1 := Blk.new w (ints (List.replicate 8 0)) 254
 have h1 := h.keep0 hk1
 generalize (w.alloc (.cells (ints (List.replicate 8 0)).toArray 254)) = w1 at *
 refine au ?_
 have hn := h.nlen
 have hc := h1.cellN (i := 0) (x := N.getD 0 0) (by rw [List.getD_eq_getElem?_getD, List.getElem?_eq_getElem (by rw [h.nlen]; decide)]; rfl)
 refine pl_val (.int .i64 (N.getD 0 0)) rfl rfl (val_load1 hT rfl rfl rfl hc) ?_
 refine pl_val _ rfl rfl (val_build _ rfl rfl (built_root _) w1) ?_
 refine pl_op rfl rfl (opTo_alloc _ rfl zero_words ?_)
 have hk2 := hk1.alloc (.cells (ints (List.replicate 8 0)).toArray 254)
 have hr2 := hr1.alloc (.cells (ints (List.replicate 8 0)).toArray 254)
 have hx2 := Blk.new w1 (ints (List.replicate 8 0)) 254
 have hne : w.heap.size ≠ w1.heap.size := by have := hr1.lt; omega
 have hsz := hk1.size
 generalize (w1.alloc (.cells (ints (List.replicate 8 0)).toArray 254)) = w2 at *
 refine au ?_
 refine pl_op rfl rfl (opTo_store _ rfl rfl rfl rfl (by kernel_rfl) hx2 (by simp [ints]) (ints_one _) ?_)
 rw [splice_all (show (ints [N.getD 0 0, 0, 0, 0, 0, 0, 0, 0]).length = (ints (List.replicate 8 0)).length from rfl)]
 have hk3 := hk2.setRow w1.heap.size (ints [N.getD 0 0, 0, 0, 0, 0, 0, 0, 0]).toArray (.inr hsz)
 have hx3 := hx2.set (ints [N.getD 0 0, 0, 0, 0, 0, 0, 0, 0])
 have hr3 := hr2.other (ints [N.getD 0 0, 0, 0, 0, 0, 0, 0, 0]).toArray hne
 have h3 := h.keep0 hk3
 generalize (w2.setRow w1.heap.size (ints [N.getD 0 0, 0, 0, 0, 0, 0, 0, 0]).toArray) = w3 at *
 refine au ?_
 refine rn_draw (fun _ => True) [] hMix ?_
 refine dr_any 0 _ rfl (by decide +kernel) rfl rfl (fun w' => val_sliceArrFrom 1 hT rfl rfl rfl rfl rfl (by decide) w') ?_
 refine tk 1 ?_
 refine tk 2 ?_
 refine tk 3 ?_
 refine dr_any 4 _ rfl (by decide +kernel) rfl rfl (fun w' => val_sliceArr hT rfl rfl rfl w') ?_
 have hcl : ((N.drop 1).take 2).length = 2 := by simp [hn]
 refine dr_op 5 rfl (by decide +kernel) rfl rfl (opTo_copy (ints ((N.drop 1).take 2)) rfl rfl rfl (by decide +kernel) hx3.drew (by rw [ints_length, hcl]; rfl) ((h3.keep0 ((Keep.refl [] w3).drew)).rangeN 1 2 (by decide)) (by rw [ints_length, hcl]; simp [ints]) (ints_one _) fun r => ⟨fun _ => trivial, ?_⟩)
 refine dr_done (by decide +kernel) ?_
 have e : splice (ints [N.getD 0 0, 0, 0, 0, 0, 0, 0, 0]) (0 + 1 * 1) (ints ((N.drop 1).take 2)) = ints (rootW N) := by
  obtain ⟨a, b, c, d, e, f, g, i, j, k, m, n, o, p, q, r, s, rfl⟩ := list17 hn
  rfl
 rw [e]
 have hx4 := hx3.drew.set (ints (rootW N))
 have hr4 := hr3.drew.other (ints (rootW N)).toArray hne
 have hk4 := (hk3.drew).setRow w1.heap.size (ints (rootW N)).toArray (.inr hsz)
 generalize (w3.drew.setRow w1.heap.size (ints (rootW N)).toArray) = w4 at *
 refine au ?_
 refine pl_val (.agg (ints (rootW N)).toArray) rfl rfl (val_load _ hT rfl rfl rfl (hx4.range (by simp))) ?_
 refine pl_op rfl rfl (opTo_store _ rfl rfl rfl rfl (by kernel_rfl) hr4 (by simp [ints, rootW]) (ints_one _) ?_)
 rw [splice_all (show (ints (rootW N)).length = (ints (List.replicate 8 0)).length from rfl)]
 refine au ?_
 exact rn_ret Tryz.func280 (.inr (.inr (.inl ⟨_, _, _, rfl, rfl, loadVar_agg hT (cs := ints (rootW N)) rfl ((hr4.set _).range (by simp))⟩))) ⟨rfl, hk4.setRow _ _ (.inr (Nat.le_refl _))⟩
end
end
section
open Go.Proofs
theorem built_commit (s : Nat) {N : List Int} (h : N.length = 17) : Tryz.prog.built 342 [(0, Value.pointer (some ⟨s, 0, none⟩)), (1, Value.agg (ints N).toArray)] = some (ccells s N (List.replicate 34 false) (.slice none 0 0)).toArray := by
 obtain ⟨a, b, c, d, e, f, g, i, j, k, m, n, o, p, q, r, s, rfl⟩ := list17 h
 kernel_rfl
def takeAll (K : List Bool) (l : List Int) : List Bool := l.foldl takeK K
theorem takeAll_length (K : List Bool) (l : List Int) : (takeAll K l).length = K.length := by
 induction l generalizing K with
 | nil => rfl
 | cons a r ih => rw [takeAll, List.foldl_cons]; exact (ih _).trans (takeK_length _ _)
theorem takeAll_snoc (K : List Bool) {l : List Int} {j : Nat} {a : Int} (h : l[j]? = some a) : takeAll K (l.take (j + 1)) = takeK (takeAll K (l.take j)) a := by
 have hlt : j < l.length := (List.getElem?_eq_some_iff.1 h).1
 have hj : l[j] = a := (List.getElem?_eq_some_iff.1 h).2
 rw [List.take_succ_eq_append_getElem hlt, hj, takeAll, List.foldl_append]
 rfl
def K0 : List Bool := List.replicate 34 false
def takenK (S : List Int) : List Bool := takeAll (takeAll (takeAll K0 [0, 1]) (tabS S)) (pgS S)
def nextN (S : List Int) : List Int := (genS S + 1) :: (tabS S ++ pgS S)
theorem begin_ret {B : Nat} {w : World} {s d : Nat} {S : List Int} {L : List Wr} {wv : Value} (hs : StoreV w s d) (h : DiskV B w d S L wv) (hg0 : 0 ≤ genS S) (hg1 : genS S < 1000000) :
  Ret Tryz.prog 274 [.pointer (some ⟨s, 0, none⟩)] w fun v w' => ∃ c, v = .pointer (some ⟨c, 0, none⟩) ∧ ComV w.heap.size w' c s (nextN S) (takenK S) (.slice none 0 0) [] [] ∧ Keep [] w w' := by
 refine ret_of 59 Tryz.func274 rfl rfl (by simp) ?_
 refine au ?_
 refine pl_val (.pointer (some ⟨d, 0, none⟩)) rfl rfl (val_load1 hT rfl rfl rfl (hs.cell rfl)) ?_
 refine pl_op rfl rfl (opTo_call rfl rfl rfl rfl (by decide +kernel) ((sure_ret h).mono ?_))
 rintro v w1 ⟨g, cap, rfl, ho, hk1⟩
 refine pl_op rfl rfl (opTo_call rfl rfl rfl rfl (by decide +kernel) ((find_ret ho h.len (by have := owns_cap ho; omega)).mono ?_))
 rintro v w2 ⟨rfl, hk2⟩
 have hkw2 := hk1.tr0 hk2
 have h17 := stS_length h.len
 refine pl_val _ rfl rfl (val_build _ rfl rfl (built_commit s h17) w2) ?_
 refine pl_op rfl rfl (opTo_box _ rfl rfl rfl ?_)
 have hk3 := hkw2.alloc (.cells (ccells s (stS S) K0 (.slice none 0 0)).toArray 342)
 have hb3 := Blk.new w2 (ccells s (stS S) K0 (.slice none 0 0)) 342
 have h3 : ComV w.heap.size (w2.alloc (.cells (ccells s (stS S) K0 (.slice none 0 0)).toArray 342)) w2.heap.size s (stS S) K0 (.slice none 0 0) [] [] :=
  ⟨hb3, hkw2.size, h17, rfl, Own.nil _ _ _ _, fun j d hd => by simp at hd⟩
 rw [show (List.replicate 34 false) = K0 from rfl]
 clear hb3
 generalize (w2.alloc (.cells (ccells s (stS S) K0 (.slice none 0 0)).toArray 342)) = w3 at *
 generalize w2.heap.size = c at *
 refine au ?_
 refine rn_ind (fun m σ w' => ∃ j, m = 2 - j ∧ j ≤ 2 ∧ σ = [(3, .pointer (some ⟨c, 0, none⟩)), (18, .int .i64 (j : Nat))] ∧ Keep [] w w' ∧ ComV w.heap.size w' c s (stS S) (takeAll K0 (([0, 1] : List Int).take j)) (.slice none 0 0) [] [])
  (2 - 0) _ ?_ ⟨0, rfl, by decide, rfl, hk3, h3⟩ ?_
 ·exact ⟨rfl, rfl, trivial⟩
 clear h3 hk3
 rintro m σ w4 ih ⟨j, hm, hj, rfl, hk4, h4⟩
 refine au ?_
 rcases Nat.lt_or_ge j 2 with hlt | hge
 ·refine pl_val (.bool true) rfl rfl (val_int .i64 _ _ _ rfl rfl rfl (by simp [intOp]; omega) w4) ?_
  refine au ?_
  have hel : ([0, 1] : List Int)[j]? = some (j : Int) := by
   have : j = 0 ∨ j = 1 := by omega
   rcases this with rfl | rfl <;> rfl
  refine pl_op rfl rfl (opTo_call rfl rfl rfl rfl (by decide +kernel) ((take_ret h4 (j : Nat)).mono ?_))
  rintro v w5 ⟨rfl, h5, ht5⟩
  refine au ?_
  refine pl_val (.int .i64 ((j + 1 : Nat) : Int)) rfl rfl (val_int .i64 j 1 _ rfl rfl rfl (by simp only [intOp]; rw [wrap_i64 (by omega) (by omega)]; rfl) w5) ?_
  refine au ?_
  refine rn_sub ?_ (ih (2 - (j + 1)) _ w5 (by omega) ⟨j + 1, rfl, hlt, rfl, ht5.keep hk4 (Nat.le_refl _), by rw [takeAll_snoc K0 hel]; exact h5⟩)
  exact ⟨rfl, rfl, trivial⟩
 have hj2 : j = 2 := by omega
 subst hj2
 clear ih hm hj hge
 replace h4 : ComV w.heap.size w4 c s (stS S) (takeAll K0 [0, 1]) (.slice none 0 0) [] [] := h4
 generalize hK1 : takeAll K0 [0, 1] = K1 at h4
 refine pl_val (.bool false) rfl rfl (val_int .i64 _ _ _ rfl rfl rfl (by simp [intOp]) w4) ?_
 refine au ?_
 have t2 := tabS_length h.len
 have p14 := pgS_length h.len
 have hrt := h4.rangeN 1 2 (by decide)
 rw [show ((stS S).drop 1).take 2 = tabS S by simp [stS, t2]] at hrt
 refine pl_val (.agg (ints (tabS S)).toArray) rfl rfl (val_load _ hT rfl rfl (by rw [ints_length, t2]; rfl) hrt) ?_
 refine au ?_
 refine rn_ind (fun m σ w' => ∃ j, m = 2 - j ∧ j ≤ 2 ∧ σ = [(3, .pointer (some ⟨c, 0, none⟩)), (29, .agg (ints (tabS S)).toArray), (30, .int .i64 (j : Nat))] ∧ Keep [] w w' ∧ ComV w.heap.size w' c s (stS S) (takeAll K1 ((tabS S).take j)) (.slice none 0 0) [] [])
  (2 - 0) _ ?_ ⟨0, rfl, by decide, rfl, hk4, h4⟩ ?_
 ·exact ⟨rfl, rfl, rfl, trivial⟩
 clear h4 hk4 hrt
 rintro m σ w4 ih ⟨j, hm, hj, rfl, hk4, h4⟩
 refine au ?_
 rcases Nat.lt_or_ge j 2 with hlt | hge
 ·refine pl_val (.bool true) rfl rfl (val_int .i64 _ _ _ rfl rfl rfl (by simp [intOp]; omega) w4) ?_
  refine au ?_
  obtain ⟨a, ha⟩ : ∃ a, (tabS S)[j]? = some a := ⟨_, List.getElem?_eq_getElem (by omega)⟩
  refine pl_val (.int .i64 a) rfl rfl (val_at _ j arrT rfl rfl rfl rfl hlt ha w4) ?_
  refine au ?_
  refine pl_op rfl rfl (opTo_call rfl rfl rfl rfl (by decide +kernel) ((take_ret h4 a).mono ?_))
  rintro v w5 ⟨rfl, h5, ht5⟩
  refine au ?_
  refine pl_val (.int .i64 ((j + 1 : Nat) : Int)) rfl rfl (val_int .i64 j 1 _ rfl rfl rfl (by simp only [intOp]; rw [wrap_i64 (by omega) (by omega)]; rfl) w5) ?_
  refine au ?_
  refine rn_sub ?_ (ih (2 - (j + 1)) _ w5 (by omega) ⟨j + 1, rfl, hlt, rfl, ht5.keep hk4 (Nat.le_refl _), by rw [takeAll_snoc K1 ha]; exact h5⟩)
  exact ⟨rfl, rfl, rfl, trivial⟩
 have hj2 : j = 2 := by omega
 subst hj2
 clear ih hm hj hge
 rw [List.take_of_length_le (by omega)] at h4
 generalize hK2 : takeAll K1 (tabS S) = K2 at h4
 refine pl_val (.bool false) rfl rfl (val_int .i64 _ _ _ rfl rfl rfl (by simp [intOp]) w4) ?_
 refine au ?_
 have hrp := h4.rangeN 3 14 (by decide)
 rw [show ((stS S).drop 3).take 14 = pgS S by simp [stS, t2, List.take_of_length_le, p14]] at hrp
 refine pl_val (.agg (ints (pgS S)).toArray) rfl rfl (val_load _ hT rfl rfl (by rw [ints_length, p14]; rfl) hrp) ?_
 refine au ?_
 refine rn_ind (fun m σ w' => ∃ j, m = 14 - j ∧ j ≤ 14 ∧ σ = [(3, .pointer (some ⟨c, 0, none⟩)), (41, .agg (ints (pgS S)).toArray), (42, .int .i64 (j : Nat))] ∧ Keep [] w w' ∧ ComV w.heap.size w' c s (stS S) (takeAll K2 ((pgS S).take j)) (.slice none 0 0) [] [])
  (14 - 0) _ ?_ ⟨0, rfl, by decide, rfl, hk4, h4⟩ ?_
 ·exact ⟨rfl, rfl, rfl, trivial⟩
 clear h4 hk4 hrp
 rintro m σ w4 ih ⟨j, hm, hj, rfl, hk4, h4⟩
 refine au ?_
 rcases Nat.lt_or_ge j 14 with hlt | hge
 ·refine pl_val (.bool true) rfl rfl (val_int .i64 _ _ _ rfl rfl rfl (by simp [intOp]; omega) w4) ?_
  refine au ?_
  obtain ⟨a, ha⟩ : ∃ a, (pgS S)[j]? = some a := ⟨_, List.getElem?_eq_getElem (by omega)⟩
  refine pl_val (.int .i64 a) rfl rfl (val_at _ j arrP rfl rfl rfl rfl hlt ha w4) ?_
  refine au ?_
  refine pl_op rfl rfl (opTo_call rfl rfl rfl rfl (by decide +kernel) ((take_ret h4 a).mono ?_))
  rintro v w5 ⟨rfl, h5, ht5⟩
  refine au ?_
  refine pl_val (.int .i64 ((j + 1 : Nat) : Int)) rfl rfl (val_int .i64 j 1 _ rfl rfl rfl (by simp only [intOp]; rw [wrap_i64 (by omega) (by omega)]; rfl) w5) ?_
  refine au ?_
  refine rn_sub ?_ (ih (14 - (j + 1)) _ w5 (by omega) ⟨j + 1, rfl, hlt, rfl, ht5.keep hk4 (Nat.le_refl _), by rw [takeAll_snoc K2 ha]; exact h5⟩)
  exact ⟨rfl, rfl, rfl, trivial⟩
 have hj2 : j = 14 := by omega
 subst hj2
 clear ih hm hj hge
 rw [List.take_of_length_le (by omega)] at h4
 refine pl_val (.bool false) rfl rfl (val_int .i64 _ _ _ rfl rfl rfl (by simp [intOp]) w4) ?_
 refine au ?_
 refine pl_val (.int .i64 (genS S)) rfl rfl (val_load1 hT rfl rfl rfl (h4.cellN (i := 0) rfl)) ?_
 refine pl_val (.int .i64 (genS S + 1)) rfl rfl (val_int .i64 _ 1 _ rfl rfl rfl (by simp only [intOp]; rw [wrap_i64 (by omega) (by omega)]) w4) ?_
 refine au ?_
 refine pl_op rfl rfl (opTo_store _ rfl rfl rfl rfl (by kernel_rfl) h4.blk (by rw [ccells_length h4.nlen h4.klen]; simp) (by simp; rfl) ?_)
 rw [show splice (ccells s (stS S) (takeAll K2 (pgS S)) (.slice none 0 0)) (0 + 1 + 0) [.int .i64 (genS S + 1)] = ccells s (nextN S) (takeAll K2 (pgS S)) (.slice none 0 0) from (ccells_setN 0 _ (by omega)).trans rfl]
 obtain ⟨h5, ht5, _⟩ := h4.put (nextN S) (takeAll K2 (pgS S)) (by simp [nextN, t2, p14]) h4.klen
 refine au ?_
 refine rn_ret Tryz.func274 (.inl ⟨_, rfl, rfl⟩) ⟨c, rfl, ?_, ht5.keep hk4 (Nat.le_refl _)⟩
 have e : takenK S = takeAll K2 (pgS S) := by rw [← hK2, ← hK1]; rfl
 rw [e]
 exact h5
def doDeed (x : List Int × List Wr) : Deed → List Int × List Wr
 | none => (settled (fun _ => true) x.2 x.1, [])
 | some (a, ws) => (x.1, if hasB a then x.2 ++ [(a.toNat, ws)] else x.2)
def doDeeds (D : List Deed) (x : List Int × List Wr) : List Int × List Wr := D.foldl doDeed x
theorem doDeeds_snoc {D : List Deed} {j : Nat} {d : Deed} (h : D[j]? = some d) (x : List Int × List Wr) : doDeeds (D.take (j + 1)) x = doDeed (doDeeds (D.take j) x) d := by
 have hlt : j < D.length := (List.getElem?_eq_some_iff.1 h).1
 have hj : D[j] = d := (List.getElem?_eq_some_iff.1 h).2
 rw [List.take_succ_eq_append_getElem hlt, hj, doDeeds, List.foldl_append]
 rfl
theorem doDeeds_len (D : List Deed) (x : List Int × List Wr) : (doDeeds D x).2.length ≤ x.2.length + D.length := by
 induction D generalizing x with
 | nil => simp [doDeeds]
 | cons d r ih =>
  have h1 := ih (doDeed x d)
  have h2 : (doDeed x d).2.length ≤ x.2.length + 1 := by
   cases d with
   | none => simp [doDeed]
   | some p => simp only [doDeed]; split <;> simp
  simp only [doDeeds, List.foldl_cons, List.length_cons] at h1 ⊢
  omega
theorem fpD_typ {B : Nat} {w : World} {d : Nat} {S : List Int} {L : List Wr} {wv : Value} (h : DiskV B w d S L wv) : ∀ k ∈ fpD d wv, ∀ M e, Blk w k M e → e = 258 ∨ e = 320 := by
 intro k hk M e hb
 simp only [fpD, List.mem_cons, Option.mem_toList] at hk
 rcases hk with rfl | hk
 ·exact .inl (blk_typ hb h.blk)
 ·rcases h.owns.2 with ⟨h1, _⟩ | ⟨g, cap, cur, h1, _, hg, _⟩
  ·rw [h1] at hk; simp [Value.ownBlock] at hk
  ·rw [h1] at hk
   simp [Value.ownBlock] at hk
   subst hk
   refine .inr (blk_typ (L' := cur.toList) hb ?_)
   unfold Blk
   simpa using hg
section
variable {B Bd : Nat} {w : World} {c s d : Nat} {N : List Int} {K : List Bool} {dv : Value} {fvs : List Value} {D : List Deed} {S : List Int} {L : List Wr} {wv : Value}
theorem deed_ret (h : ComV B w c s N K dv fvs D) (hs : StoreV w s d) (hd : DiskV Bd w d S L wv) (hL : L.length < 1000000) {fv : Value} {de : Deed} (hv : DeedV w c fv de) :
  ∃ g cap, fv = .func (.func g) #[] (List.toArray cap) ∧ callable Tryz.prog g = true ∧ Ret Tryz.prog g cap w fun v w' => v = .tuple #[] ∧ ∃ wv', DiskV Bd w' d (doDeed (S, L) de).1 (doDeed (S, L) de).2 wv' ∧ Keep (fpD d wv) w w' ∧ ∀ k ∈ fpD d wv', k ∈ fpD d wv ∨ w.heap.size ≤ k := by
 cases de with
 | none =>
  obtain ⟨x, rfl, hx⟩ := hv
  refine ⟨_, [.pointer (some ⟨x, 0, none⟩)], rfl, by decide +kernel, ?_⟩
  refine ret_of 9 Tryz.func286 rfl rfl (by simp) ?_
  refine au ?_
  refine pl_val (.pointer (some ⟨c, 0, none⟩)) rfl rfl (val_load1 hT rfl rfl rfl (hx.cell rfl)) ?_
  refine au ?_
  refine pl_val (.pointer (some ⟨s, 0, none⟩)) rfl rfl (val_load1 hT rfl rfl rfl h.cellS) ?_
  refine au ?_
  refine pl_val (.pointer (some ⟨d, 0, none⟩)) rfl rfl (val_load1 hT rfl rfl rfl (hs.cell rfl)) ?_
  refine pl_op rfl rfl (opTo_call rfl rfl rfl rfl (by decide +kernel) ((flush_ret hd hL).mono ?_))
  rintro v w1 ⟨rfl, h1, hk⟩
  refine au ?_
  refine rn_end Tryz.func286 (.inr (.inl ⟨rfl, rfl⟩)) ⟨rfl, _, h1, hk.mono fun k hk => .inl (by simp at hk; simp [fpD, hk]), fun k hk => .inl ?_⟩
  simp [fpD, Value.ownBlock] at hk
  simp [fpD, hk]
 | some p =>
  obtain ⟨x, y, z, rfl, hx, hy, hz, h8⟩ := hv
  refine ⟨_, [.pointer (some ⟨x, 0, none⟩), .pointer (some ⟨y, 0, none⟩), .pointer (some ⟨z, 0, none⟩)], rfl, by decide +kernel, ?_⟩
  refine ret_of 13 Tryz.func288 rfl rfl (by simp) ?_
  have hk0 : Keep (fpD d wv) w w.drew := (Keep.refl _ _).drew
  have hty := fpD_typ hd
  have hxn : x ∉ fpD d wv := fun hm => absurd (hty x hm _ _ hx) (by decide)
  have hyn : y ∉ fpD d wv := fun hm => absurd (hty y hm _ _ hy) (by decide)
  have hzn : z ∉ fpD d wv := fun hm => absurd (hty z hm _ _ hz) (by decide)
  have hsn : s ∉ fpD d wv := fun hm => absurd (hty s hm _ _ hs) (by decide)
  have hcn : c ∉ fpD d wv := fun hm => absurd (hty c hm _ _ h.blk) (by decide)
  refine au ?_
  refine rn_draw (fun w' => Keep (fpD d wv) w w') [] hMix ?_
  refine dr_val 0 (.pointer (some ⟨c, 0, none⟩)) rfl (by decide +kernel) rfl rfl (fun w' hk => val_load1 hT rfl rfl rfl ((hk.blk hx hxn).cell rfl)) hk0 ?_
  refine tk 1 ?_
  refine tk 2 ?_
  refine dr_val 3 (.pointer (some ⟨s, 0, none⟩)) rfl (by decide +kernel) rfl rfl (fun w' hk => val_load1 hT rfl rfl rfl ((hk.blk h.blk hcn).cell rfl)) hk0 ?_
  refine tk 4 ?_
  refine tk 5 ?_
  refine dr_val 6 (.pointer (some ⟨d, 0, none⟩)) rfl (by decide +kernel) rfl rfl (fun w' hk => val_load1 hT rfl rfl rfl ((hk.blk hs hsn).cell rfl)) hk0 ?_
  refine dr_val 7 (.int .i64 p.1) rfl (by decide +kernel) rfl rfl (fun w' hk => val_load1 hT rfl rfl rfl ((hk.blk hy hyn).cell rfl)) hk0 ?_
  refine dr_val 8 (.agg (ints p.2).toArray) rfl (by decide +kernel) rfl rfl (fun w' hk => val_load _ hT rfl rfl (by rw [ints_length, h8]; rfl) ((hk.blk hz hzn).range (by simp))) hk0 ?_
  refine dr_op 9 rfl (by decide +kernel) rfl rfl (opTo_call rfl rfl rfl rfl (by decide +kernel) ((write_ret (hd.keep ((Keep.refl [] _).drew) (by simp)) p.1 h8 hL).mono ?_))
  rintro v w1 ⟨rfl, wv', h1, hk, hf⟩
  refine ⟨fun _ => hk0.tr hk, ?_⟩
  refine dr_done (by decide +kernel) ?_
  exact rn_end Tryz.func288 (.inr (.inl ⟨rfl, rfl⟩)) ⟨rfl, wv', h1, hk0.tr hk, hf⟩
theorem do_ret (h : ComV B w c s N K dv fvs D) (hs : StoreV w s d) (hd : DiskV Bd w d S L wv) (hL : L.length + D.length < 1000000) (may : Int) (m : Nat) (hm : m = if may < 0 ∨ may ≥ D.length then D.length else may.toNat) :
  Ret Tryz.prog 281 [.pointer (some ⟨c, 0, none⟩), .int .i64 may] w fun v w' => v = .bool (decide (may < 0 ∨ may ≥ D.length)) ∧ ∃ wv', DiskV Bd w' d (doDeeds (D.take m) (S, L)).1 (doDeeds (D.take m) (S, L)).2 wv' ∧ Keep (fpD d wv) w w' ∧ ∀ k ∈ fpD d wv', k ∈ fpD d wv ∨ w.heap.size ≤ k := by
 refine ret_of 40 Tryz.func281 rfl rfl (by simp) ?_
 obtain ⟨da, dcap, hdv⟩ := h.own.form
 have hcap : D.length ≤ dcap := by have := h.own.cap_le; rw [hdv] at this; exact this
 have hmD : m ≤ D.length := by rw [hm]; split <;> omega
 refine auj ?_
 refine rn_seq ?_
 refine rn_plain ?_
 refine pl_pure hT rfl rfl rfl ?_
 refine pl_nil ?_
 refine rn_seq ?_
 refine rn_with (fun σ w' => w' = w ∧ σ = [(0, .pointer (some ⟨c, 0, none⟩)), (1, .int .i64 may), (5, .bool (decide (may < 0 ∨ may ≥ D.length)))]) ?_ ?_
 ·rintro σ w1 ⟨rfl, rfl⟩
  refine rn_seq ?_
  refine rn_with (fun σ w' => w' = w1 ∧ σ = [(0, .pointer (some ⟨c, 0, none⟩)), (1, .int .i64 (m : Nat)), (5, .bool (decide (may < 0 ∨ may ≥ D.length)))]) ?_ ?_
  ·rintro σ w2 ⟨rfl, rfl⟩
   refine au ?_
   refine pl_val dv rfl rfl (val_load1 hT rfl rfl rfl h.cellD) ?_
   refine au ?_
   refine pl_val _ rfl rfl (val_sliceTo m hT rfl (by rw [hdv]; rfl) rfl rfl rfl (by omega) w2) ?_
   refine au ?_
   refine rn_ind (fun q σ w' => ∃ j wv', q = m - j ∧ j ≤ m ∧ σ = [(5, .bool (decide (may < 0 ∨ may ≥ D.length))), (30, .slice da m dcap), (31, .int .i64 (m : Nat)), (32, .int .i64 (j : Nat))] ∧
     DiskV Bd w' d (doDeeds (D.take j) (S, L)).1 (doDeeds (D.take j) (S, L)).2 wv' ∧ Keep (fpD d wv) w2 w' ∧ ∀ k ∈ fpD d wv', k ∈ fpD d wv ∨ w2.heap.size ≤ k)
    (m - 0) _ ?_ ⟨0, wv, rfl, Nat.zero_le _, rfl, hd, Keep.refl _ _, fun k hk => .inl hk⟩ ?_
   ·exact ⟨rfl, rfl, rfl, rfl, trivial⟩
   rintro q σ w3 ih ⟨j, wv', hq, hj, rfl, hd3, hk3, hf3⟩
   have h3 : ComV B w3 c s N K dv fvs D := h.keep hk3 (fpD_typ hd)
   have hs3 : StoreV w3 s d := hk3.blk hs fun hm => absurd (fpD_typ hd s hm _ _ hs) (by decide)
   refine au ?_
   rcases Nat.lt_or_ge j m with hlt | hge
   ·refine pl_val (.bool true) rfl rfl (val_int .i64 _ _ _ rfl rfl rfl (by simp [intOp]; omega) w3) ?_
    refine au ?_
    obtain ⟨de, hde⟩ : ∃ de, D[j]? = some de := ⟨_, List.getElem?_eq_getElem (by omega)⟩
    obtain ⟨fv, hfv, hv⟩ := h3.fs j de hde
    obtain ⟨g', cap', hdv', hr⟩ := h3.own.range (q := j) (cs := [fv]) (by
     have hlt' : j < fvs.length := (List.getElem?_eq_some_iff.1 hfv).1
     rw [List.drop_eq_getElem_cons hlt', (List.getElem?_eq_some_iff.1 hfv).2]
     rfl) (by omega)
    have hda : da = some ⟨g', 0, none⟩ := by rw [hdv] at hdv'; injection hdv'
    refine pl_val _ rfl rfl (val_index j hT rfl (by rw [hda]; rfl) rfl rfl rfl hlt w3) ?_
    refine pl_val fv rfl rfl (val_load1 hT rfl rfl rfl (by rw [Nat.zero_add, Nat.mul_one]; exact hr 0 fv rfl)) ?_
    refine au ?_
    have hlen := doDeeds_len (D.take j) (S, L)
    rw [List.length_take] at hlen
    obtain ⟨g, cap, hfe, hcall, hret⟩ := deed_ret h3 hs3 hd3 (by have := Nat.min_le_right j D.length; simp only at hlen; omega) hv
    subst hfe
    refine pl_op rfl rfl (opTo_call (fst := []) (vs := []) (cap := cap) rfl rfl rfl rfl hcall (hret.mono ?_))
    rintro v w4 ⟨rfl, wv4, hd4, hk4, hf4⟩
    refine au ?_
    refine pl_val (.int .i64 ((j + 1 : Nat) : Int)) rfl rfl (val_int .i64 j 1 _ rfl rfl rfl (by simp only [intOp]; rw [wrap_i64 (by omega) (by omega)]; rfl) w4) ?_
    refine au ?_
    refine rn_sub ?_ (ih (m - (j + 1)) _ w4 (by omega) ⟨j + 1, wv4, rfl, hlt, rfl, by rw [doDeeds_snoc hde]; exact hd4, hk3.trans hk4 hf3, fun k hk => ?_⟩)
    ·exact ⟨rfl, rfl, rfl, rfl, trivial⟩
    ·rcases hf4 k hk with h1 | h1
     ·exact hf3 k h1
     ·exact .inr (Nat.le_trans hk3.size h1)
   ·have hjm : j = m := by omega
    subst hjm
    refine pl_val (.bool false) rfl rfl (val_int .i64 _ _ _ rfl rfl rfl (by simp [intOp]) w3) ?_
    refine au ?_
    exact rn_ret Tryz.func281 (.inl ⟨_, rfl, rfl⟩) ⟨rfl, wv', hd3, hk3, hf3⟩
  intro hjoin
  refine rn_seq ?_
  refine rn_plain ?_
  refine pl_pure hT rfl rfl rfl ?_
  refine pl_nil ?_
  by_cases hdn : may < 0 ∨ may ≥ D.length
  ·refine rn_true (by rw [decide_eq_true hdn]; rfl) ?_
   refine rn_plain ?_
   repeat (first | refine pl_pure hT rfl rfl rfl ?_)
   refine pl_val dv rfl rfl (val_load1 hT rfl rfl rfl h.cellD) ?_
   refine pl_val (.int .i64 D.length) rfl rfl (val_pure hT (by rw [hdv]; rfl) w1) ?_
   repeat (first | refine pl_pure hT rfl rfl rfl ?_ | refine pl_nil ?_)
   refine rn_sub ?_ (hjoin _ w1 ⟨rfl, rfl⟩)
   rw [show m = D.length by rw [hm, if_pos hdn]]
   exact ⟨rfl, rfl, rfl, trivial⟩
  ·refine rn_false (by rw [decide_eq_false hdn]; rfl) ?_
   refine rn_skip ?_
   refine rn_sub ?_ (hjoin _ w1 ⟨rfl, rfl⟩)
   have hmi : ((m : Nat) : Int) = may := by rw [hm, if_neg hdn]; omega
   rw [hmi]
   exact ⟨rfl, rfl, rfl, trivial⟩
 intro hjoin
 refine rn_plain ?_
 refine pl_pure hT rfl rfl rfl ?_
 by_cases h0 : may < 0
 ·refine pl_val (.bool true) rfl rfl (val_int .i64 may 0 _ rfl rfl rfl (by simp [intOp, h0]) w) ?_
  repeat (first | refine pl_pure hT rfl rfl rfl ?_ | refine pl_nil ?_ | refine pl_not rfl rfl ?_)
  refine rn_sub ?_ (hjoin _ w ⟨rfl, rfl⟩)
  rw [decide_eq_true (.inl h0)]
  exact ⟨rfl, rfl, rfl, trivial⟩
 ·refine pl_val (.bool false) rfl rfl (val_int .i64 may 0 _ rfl rfl rfl (by simp [intOp, h0]) w) ?_
  repeat (first | refine pl_pure hT rfl rfl rfl ?_)
  refine pl_val dv rfl rfl (val_load1 hT rfl rfl rfl h.cellD) ?_
  refine pl_val (.int .i64 D.length) rfl rfl (val_pure hT (by rw [hdv]; rfl) w) ?_
  refine pl_val (.bool (decide (may ≥ D.length))) rfl rfl (val_int .i64 may D.length _ rfl rfl rfl (by simp only [intOp]) w) ?_
  repeat (first | refine pl_pure hT rfl rfl rfl ?_ | refine pl_nil ?_)
  refine rn_sub ?_ (hjoin _ w ⟨rfl, rfl⟩)
  rw [show decide (may < 0 ∨ may ≥ D.length) = decide (may ≥ D.length) by simp [h0]]
  exact ⟨rfl, rfl, rfl, trivial⟩
end
end
section
open Go.Proofs
structure Plan where
 N : List Int
 K : List Bool
 D : List Deed
def layP (x : Plan) (p : Pg) : Plan := ⟨x.N.set (3 + p.1.toNat) (freeK x.K : Nat), takeK x.K (freeK x.K : Nat), x.D ++ [some (((freeK x.K : Nat) : Int), p.2)]⟩
def layT (x : Plan) (j : Nat) : Plan := ⟨x.N.set (1 + j) (freeK x.K : Nat), takeK x.K (freeK x.K : Nat), x.D ++ [some (((freeK x.K : Nat) : Int), partW x.N j)]⟩
def planP (S : List Int) (ps : List Pg) : Plan := ps.foldl layP ⟨nextN S, takenK S, []⟩
def planT (S : List Int) (ps : List Pg) : Plan := layT (layT (planP S ps) 0) 1
def rootD (x : Plan) : Int × List Int := ((x.N.getD 0 0).tmod 2, rootW x.N)
def deedsOf (S : List Int) (ps : List Pg) : List Deed := (planT S ps).D ++ [none] ++ [some (rootD (planT S ps))] ++ [none]
theorem planP_snoc (S : List Int) {ps : List Pg} {j : Nat} {p : Pg} (h : ps[j]? = some p) : planP S (ps.take (j + 1)) = layP (planP S (ps.take j)) p := by
 have hlt : j < ps.length := (List.getElem?_eq_some_iff.1 h).1
 have hj : ps[j] = p := (List.getElem?_eq_some_iff.1 h).2
 rw [List.take_succ_eq_append_getElem hlt, hj, planP, List.foldl_append]
 rfl
theorem foldl_len (ps : List Pg) (x : Plan) : (ps.foldl layP x).D.length = x.D.length + ps.length := by
 induction ps generalizing x with
 | nil => rfl
 | cons p r ih =>
  rw [List.foldl_cons, ih]
  simp [layP]
  omega
theorem planP_len (S : List Int) (ps : List Pg) : (planP S ps).D.length = ps.length := by rw [planP, foldl_len]; simp
theorem deedsOf_len (S : List Int) (ps : List Pg) : (deedsOf S ps).length = ps.length + 5 := by simp [deedsOf, planT, layT, planP_len]
theorem chkFrom_ok {ps : List Pg} : ∀ {done : List Int}, chkFrom done ps = 0 → ∀ p ∈ ps, hasP p.1 = true := by
 induction ps with
 | nil => simp
 | cons p r ih =>
  intro done h q hq
  unfold chkFrom at h
  split at h
  ·cases h
  ·rename_i h1
   split at h
   ·cases h
   ·rcases List.mem_cons.1 hq with rfl | hq
    ·simpa using h1
    ·exact ih h q hq
section
variable {B Bp : Nat} {w : World} {s d : Nat} {pv : Value} {ps : List Pg} {S : List Int} {L : List Wr} {wv : Value}
theorem commit_bad (hp : Pgs Bp w pv ps) (hlen : ps.length < 1000) (may : Int) (hc : chk ps ≠ 0) :
  Ret Tryz.prog 265 [.pointer (some ⟨s, 0, none⟩), pv, .int .i64 may] w fun v w' => v = .tuple #[.bool false, .int .i64 (chk ps)] ∧ Keep [] w w' := by
 refine ret_of 72 Tryz.func265 rfl rfl (by simp) ?_
 refine au ?_
 refine pl_op rfl rfl (opTo_call rfl rfl rfl rfl (by decide +kernel) ((sCheck_ret hp (by omega)).mono ?_))
 rintro v w1 ⟨rfl, hk1⟩
 refine au ?_
 refine pl_val (.bool true) rfl rfl (val_int .i64 _ 0 _ rfl rfl rfl (by simp [intOp, hc]) w1) ?_
 refine au ?_
 exact rn_ret Tryz.func265 (.inr (.inr (.inr (.inr ⟨_, _, _, _, rfl, rfl, rfl, rfl⟩)))) ⟨rfl, hk1⟩
theorem commit_ret (hs : StoreV w s d) (hd : DiskV B w d S L wv) (hp : Pgs Bp w pv ps) (hlen : ps.length < 900) (hL : L.length < 900) (hg0 : 0 ≤ genS S) (hg1 : genS S < 1000000) (may : Int) (hc : chk ps = 0)
  (m : Nat) (hm : m = if may < 0 ∨ may ≥ (ps.length + 5 : Nat) then ps.length + 5 else may.toNat) :
  Ret Tryz.prog 265 [.pointer (some ⟨s, 0, none⟩), pv, .int .i64 may] w fun v w' => v = .tuple #[.bool (decide (may < 0 ∨ may ≥ (ps.length + 5 : Nat))), .int .i64 0] ∧
   ∃ wv', DiskV B w' d (doDeeds ((deedsOf S ps).take m) (S, L)).1 (doDeeds ((deedsOf S ps).take m) (S, L)).2 wv' ∧ Keep (fpD d wv) w w' ∧ ∀ k ∈ fpD d wv', k ∈ fpD d wv ∨ w.heap.size ≤ k := by
 refine ret_of 72 Tryz.func265 rfl rfl (by simp) ?_
 refine au ?_
 refine pl_op rfl rfl (opTo_call rfl rfl rfl rfl (by decide +kernel) ((sCheck_ret hp (by omega)).mono ?_))
 rintro v w1 ⟨rfl, hk1⟩
 rw [hc]
 refine au ?_
 refine pl_val (.bool false) rfl rfl (val_int .i64 _ 0 _ rfl rfl rfl rfl w1) ?_
 refine au ?_
 have hs1 : StoreV w1 s d := hk1.blk hs (by simp)
 refine pl_op rfl rfl (opTo_call rfl rfl rfl rfl (by decide +kernel) ((begin_ret hs1 (hd.keep hk1 (by simp)) hg0 hg1).mono ?_))
 rintro v w2 ⟨c, rfl, h2, hk2⟩
 have hkw2 := hk1.tr0 hk2
 have hB1 : w.heap.size ≤ w1.heap.size := hk1.size
 generalize w1.heap.size = C at *
 clear hs1 hk1 hk2
 refine au ?_
 obtain ⟨pa, pcap, hpv, _⟩ := hp.ex
 refine pl_val (.int .i64 ps.length) rfl rfl (val_pure hT (by rw [hpv]; rfl) w2) ?_
 refine au ?_
 refine rn_ind (fun q σ w' => ∃ j dv fvs, q = ps.length - j ∧ j ≤ ps.length ∧ σ = [(2, .int .i64 may), (9, .pointer (some ⟨c, 0, none⟩)), (20, pv), (21, .int .i64 ps.length), (22, .int .i64 (j : Nat))] ∧
   Keep [] w w' ∧ ComV C w' c s (planP S (ps.take j)).N (planP S (ps.take j)).K dv fvs (planP S (ps.take j)).D)
  (ps.length - 0) _ ?_ ⟨0, _, _, rfl, Nat.zero_le _, rfl, hkw2, h2⟩ ?_
 ·exact ⟨rfl, rfl, rfl, rfl, rfl, trivial⟩
 clear h2 hkw2
 rintro q σ w3 ih ⟨j, dv, fvs, hq, hj, rfl, hk3, h3⟩
 refine au ?_
 rcases Nat.lt_or_ge j ps.length with hlt | hge
 ·refine pl_val (.bool true) rfl rfl (val_int .i64 _ _ _ rfl rfl rfl (by simp [intOp]; omega) w3) ?_
  refine au ?_
  obtain ⟨p, hpj⟩ : ∃ p, ps[j]? = some p := ⟨_, List.getElem?_eq_getElem hlt⟩
  have hpm := List.mem_of_getElem? hpj
  have h8 := hp.wf p hpm
  have hhas := chkFrom_ok hc p hpm
  have hi : 0 ≤ p.1 ∧ p.1 < 14 := by simpa [hasP] using hhas
  obtain ⟨b, o, cap, hv', _, hr⟩ := (hp.keep hk3 (by simp)).at hpj
  refine pl_val _ rfl rfl (val_index j hT rfl (by rw [hv']; rfl) rfl rfl rfl hlt w3) ?_
  refine pl_val (.agg (pcell p).toArray) rfl rfl (val_load _ hT rfl rfl (by rw [pcell_length h8]; rfl) hr) ?_
  refine pl_op rfl rfl (opTo_alloc _ rfl zero_page ?_)
  have hk4 := hk3.alloc (.cells (pcell (0, List.replicate 8 0)).toArray 337)
  have hx4 := Blk.new w3 (pcell (0, List.replicate 8 0)) 337
  have hk34 : Keep [] w3 (w3.alloc (.cells (pcell (0, List.replicate 8 0)).toArray 337)) := (Keep.refl _ _).alloc _
  have hsz := hk3.size
  generalize (w3.alloc (.cells (pcell (0, List.replicate 8 0)).toArray 337)) = w4 at *
  refine au ?_
  refine pl_op rfl rfl (opTo_store _ rfl rfl rfl rfl (by rw [pcell_length h8]; decide +kernel) hx4 (by rw [pcell_length h8]; decide) (pcell_one _) ?_)
  rw [splice_all (by rw [pcell_length h8]; rfl)]
  have hk5 := hk4.setRow w3.heap.size (pcell p).toArray (.inr hsz)
  have hx5 := hx4.set (pcell p)
  have hk35 := hk34.setRow w3.heap.size (pcell p).toArray (.inr (Nat.le_refl _))
  have h5 := h3.keep0 hk35
  generalize (w4.setRow w3.heap.size (pcell p).toArray) = w5 at *
  generalize w3.heap.size = x at hx5 ⊢
  clear hk4 hx4 hk34 hk35 h3 hk3
  refine au ?_
  have hS0 : Blk w5.drew x (pcell p) 337 := hx5
  refine rn_draw (fun w' => Blk w' x (pcell p) 337) [11] hMix ?_
  refine tk 0 ?_
  refine tk 1 ?_
  refine dr_val 2 (.int .i64 p.1) rfl (by decide +kernel) rfl rfl (fun w' hk => val_load1 hT rfl rfl rfl (hk.cell rfl)) hS0 ?_
  refine tk 3 ?_
  refine tk 4 ?_
  refine dr_val 5 (.agg (ints p.2).toArray) rfl (by decide +kernel) rfl rfl (fun w' hk => val_load _ hT rfl rfl (by rw [ints_length, h8]; rfl) (hk.range (by simp [pcell]))) hS0 ?_
  refine tk 7 ?_
  refine tk 8 ?_
  refine tk 9 ?_
  have h6 := h5.keep0 ((Keep.refl [] w5).drew)
  have hDl : (planP S (ps.take j)).D.length < 1000 := by rw [planP_len, List.length_take]; omega
  refine dr_op 6 rfl (by decide +kernel) rfl rfl (opTo_call rfl rfl rfl rfl (by decide +kernel) ((lay_ret h6 hDl h8).mono ?_))
  rintro v w7 ⟨rfl, ⟨dv7, fvs7, h7⟩, ht7⟩
  refine ⟨fun _ => ht7.typ _ _ _ hS0 (by decide), ?_⟩
  refine dr_any 10 _ rfl (by decide +kernel) rfl rfl (fun w' => val_indexArr p.1.toNat hT rfl rfl rfl rfl (by omega) (by omega) w') ?_
  refine dr_op 11 rfl (by decide +kernel) rfl rfl (opTo_store [.int .i64 (freeK (planP S (ps.take j)).K : Nat)] rfl rfl rfl rfl (by kernel_rfl) h7.blk (by rw [ccells_length h7.nlen h7.klen]; simp; omega) (by simp; rfl) ⟨fun hn => absurd (by simp) hn, ?_⟩)
  have h17 := h7.nlen
  rw [show splice (ccells s (planP S (ps.take j)).N (takeK (planP S (ps.take j)).K (freeK (planP S (ps.take j)).K : Nat)) dv7) (0 + 1 + 3 + p.1.toNat * 1) [.int .i64 (freeK (planP S (ps.take j)).K : Nat)] =
    ccells s (planP S (ps.take (j + 1))).N (planP S (ps.take (j + 1))).K dv7 by
   rw [planP_snoc S hpj, show 0 + 1 + 3 + p.1.toNat * 1 = 1 + (3 + p.1.toNat) by omega, ccells_setN _ _ (by omega)]
   rfl]
  obtain ⟨h8', ht8, _⟩ := h7.put (planP S (ps.take (j + 1))).N (planP S (ps.take (j + 1))).K (by rw [planP_snoc S hpj]; simp [layP, h17]) (by rw [planP_snoc S hpj]; exact h7.klen)
  refine dr_done (by decide +kernel) ?_
  have hk8 := ht8.keep (ht7.keep (hk5.drew) hB1) hB1
  generalize (w7.setRow c (ccells s (planP S (ps.take (j + 1))).N (planP S (ps.take (j + 1))).K dv7).toArray) = w8 at *
  refine au ?_
  refine pl_val (.int .i64 ((j + 1 : Nat) : Int)) rfl rfl (val_int .i64 j 1 _ rfl rfl rfl (by simp only [intOp]; rw [wrap_i64 (by omega) (by omega)]; rfl) w8) ?_
  refine au ?_
  refine rn_sub ?_ (ih (ps.length - (j + 1)) _ w8 (by omega) ⟨j + 1, dv7, fvs7, rfl, hlt, rfl, hk8, ?_⟩)
  ·exact ⟨rfl, rfl, rfl, rfl, rfl, trivial⟩
  ·rw [show (planP S (ps.take (j + 1))).D = (planP S (ps.take j)).D ++ [some (((freeK (planP S (ps.take j)).K : Nat) : Int), p.2)] by rw [planP_snoc S hpj]; rfl]
   exact h8'
 refine pl_val (.bool false) rfl rfl (val_int .i64 _ _ _ rfl rfl rfl (by simp [intOp]; omega) w3) ?_
 clear ih
 rw [List.take_of_length_le hge] at h3
 refine au ?_
 refine rn_ind (fun q σ w' => ∃ j dv fvs X, q = 2 - j ∧ j ≤ 2 ∧ σ = [(2, .int .i64 may), (9, .pointer (some ⟨c, 0, none⟩)), (38, .int .i64 (j : Nat))] ∧
   Keep [] w w' ∧ ComV C w' c s X.N X.K dv fvs X.D ∧ X = ([0, 1].take j).foldl layT (planP S ps))
  (2 - 0) _ ?_ ⟨0, _, _, planP S ps, rfl, Nat.zero_le _, rfl, hk3, h3, rfl⟩ ?_
 ·exact ⟨rfl, rfl, rfl, trivial⟩
 clear h3 hk3
 rintro q σ w3 ih ⟨j, dv, fvs, X, hq, hj, rfl, hk3, h3, hX⟩
 have hDX : X.D.length = ps.length + j := by
  have : j = 0 ∨ j = 1 ∨ j = 2 := by omega
  rcases this with rfl | rfl | rfl <;> rw [hX] <;> simp [layT, planP_len]
 refine au ?_
 rcases Nat.lt_or_ge j 2 with hlt | hge
 ·refine pl_val (.bool true) rfl rfl (val_int .i64 _ _ _ rfl rfl rfl (by simp [intOp]; omega) w3) ?_
  refine au ?_
  refine rn_draw (fun w' => True) [] hMix ?_
  refine tk 0 ?_
  refine tk 1 ?_
  refine tk 2 ?_
  refine tk 3 ?_
  refine tk 4 ?_
  refine tk 5 ?_
  refine tk 6 ?_
  refine tk 9 ?_
  refine tk 10 ?_
  refine tk 11 ?_
  have h4 := h3.keep0 ((Keep.refl [] w3).drew)
  refine dr_op 7 rfl (by decide +kernel) rfl rfl (opTo_call rfl rfl rfl rfl (by decide +kernel) ((partWords_ret h4 j hlt).mono ?_))
  rintro v w5 ⟨rfl, hk5⟩
  refine ⟨fun _ => trivial, ?_⟩
  have h5 := h4.keep0 hk5
  refine dr_op 8 rfl (by decide +kernel) rfl rfl (opTo_call rfl rfl rfl rfl (by decide +kernel) ((lay_ret h5 (by omega) (partW_length h3.nlen j)).mono ?_))
  rintro v w7 ⟨rfl, ⟨dv7, fvs7, h7⟩, ht7⟩
  refine ⟨fun _ => trivial, ?_⟩
  have h17 := h7.nlen
  refine dr_any 12 _ rfl (by decide +kernel) rfl rfl (fun w' => val_indexArr j hT rfl rfl rfl rfl rfl hlt w') ?_
  refine dr_op 13 rfl (by decide +kernel) rfl rfl (opTo_store [.int .i64 (freeK X.K : Nat)] rfl rfl rfl rfl (by kernel_rfl) h7.blk (by rw [ccells_length h7.nlen h7.klen]; simp; omega) (by simp; rfl) ⟨fun _ => trivial, ?_⟩)
  rw [show splice (ccells s X.N (takeK X.K (freeK X.K : Nat)) dv7) (0 + 1 + 1 + j * 1) [.int .i64 (freeK X.K : Nat)] = ccells s (layT X j).N (layT X j).K dv7 by
   rw [show 0 + 1 + 1 + j * 1 = 1 + (1 + j) by omega, ccells_setN _ _ (by omega)]
   rfl]
  obtain ⟨h8', ht8, _⟩ := h7.put (layT X j).N (layT X j).K (by simp [layT, h17]) h7.klen
  refine dr_done (by decide +kernel) ?_
  have hk8 := ht8.keep (ht7.keep ((hk3.drew).tr0 hk5) hB1) hB1
  generalize (w7.setRow c (ccells s (layT X j).N (layT X j).K dv7).toArray) = w8 at *
  refine au ?_
  refine pl_val (.int .i64 ((j + 1 : Nat) : Int)) rfl rfl (val_int .i64 j 1 _ rfl rfl rfl (by simp only [intOp]; rw [wrap_i64 (by omega) (by omega)]; rfl) w8) ?_
  refine au ?_
  refine rn_sub ?_ (ih (2 - (j + 1)) _ w8 (by omega) ⟨j + 1, dv7, fvs7, layT X j, rfl, hlt, rfl, hk8, h8', ?_⟩)
  ·exact ⟨rfl, rfl, rfl, trivial⟩
  ·have : j = 0 ∨ j = 1 := by omega
   rcases this with rfl | rfl <;> rw [hX] <;> rfl
 have hj2 : j = 2 := by omega
 subst hj2
 clear ih hge hj
 replace hX : X = planT S ps := hX
 subst hX
 refine pl_val (.bool false) rfl rfl (val_int .i64 _ _ _ rfl rfl rfl (by simp [intOp]) w3) ?_
 refine au ?_
 refine pl_op rfl rfl (opTo_call rfl rfl rfl rfl (by decide +kernel) ((cflush_ret h3 (by omega)).mono ?_))
 rintro v w4 ⟨rfl, ⟨dv4, fvs4, h4⟩, ht4⟩
 have hk4 := ht4.keep hk3 hB1
 refine au ?_
 refine rn_draw (fun w' => True) [] hMix ?_
 refine tk 0 ?_
 refine tk 1 ?_
 refine tk 2 ?_
 refine tk 3 ?_
 refine tk 5 ?_
 refine tk 6 ?_
 refine tk 7 ?_
 have h5 := h4.keep0 ((Keep.refl [] w4).drew)
 refine dr_op 4 rfl (by decide +kernel) rfl rfl (opTo_call rfl rfl rfl rfl (by decide +kernel) ((rootAt_ret h5).mono ?_))
 rintro v w5 ⟨rfl, rfl⟩
 refine ⟨fun _ => trivial, ?_⟩
 refine dr_op 8 rfl (by decide +kernel) rfl rfl (opTo_call rfl rfl rfl rfl (by decide +kernel) ((rootWords_ret h5).mono ?_))
 rintro v w6 ⟨rfl, hk6⟩
 refine ⟨fun _ => trivial, ?_⟩
 have h6 := h5.keep0 hk6
 have hkw6 := (hk4.drew).tr0 hk6
 refine dr_op 9 rfl (by decide +kernel) rfl rfl (opTo_call rfl rfl rfl rfl (by decide +kernel) ((cwrite_ret h6 (by simp; omega) ((planT S ps).N.getD 0 0 |>.tmod 2) (ws := rootW (planT S ps).N) rfl).mono ?_))
 rintro v w7 ⟨rfl, ⟨dv7, fvs7, h7⟩, ht7⟩
 refine ⟨fun _ => trivial, ?_⟩
 refine dr_done (by decide +kernel) ?_
 have hk7 := ht7.keep hkw6 hB1
 refine au ?_
 refine pl_op rfl rfl (opTo_call rfl rfl rfl rfl (by decide +kernel) ((cflush_ret h7 (by simp; omega)).mono ?_))
 rintro v w8 ⟨rfl, ⟨dv8, fvs8, h8⟩, ht8⟩
 have hk8 := ht8.keep hk7 hB1
 refine au ?_
 have h9 : ComV C w8 c s (planT S ps).N (planT S ps).K dv8 fvs8 (deedsOf S ps) := h8
 have hdl := deedsOf_len S ps
 have hd8 := hd.keep hk8 (by simp)
 have hs8 : StoreV w8 s d := hk8.blk hs (by simp)
 refine pl_op rfl rfl (opTo_call rfl rfl rfl rfl (by decide +kernel) ((do_ret h9 hs8 hd8 (by rw [hdl]; omega) may m (by rw [hdl]; exact hm)).mono ?_))
 rintro v w9 ⟨rfl, wv', hd9, hk9, hf9⟩
 rw [hdl]
 refine au ?_
 refine rn_ret Tryz.func265 (.inr (.inr (.inr (.inr ⟨_, _, _, _, rfl, rfl, rfl, rfl⟩)))) ⟨rfl, wv', hd9, (hk8.of0).tr hk9, fun k hk => ?_⟩
 rcases hf9 k hk with h1 | h1
 ·exact .inl h1
 ·exact .inr (Nat.le_trans hk8.size h1)
end
end
def at_ (K : List Bool) (k : Nat) : Bool := K.getD k false
theorem at_takeK {K : List Bool} (hK : K.length = 34) (a : Int) (k : Nat) : at_ (takeK K a) k = (at_ K k || (hasB a && decide (a.toNat = k))) := by
 unfold takeK at_
 cases hb : hasB a with
 | false => simp
 | true =>
  have hi : 0 ≤ a ∧ a < 34 := by simpa [hasB] using hb
  simp only [if_true, List.getD_eq_getElem?_getD, List.getElem?_set]
  by_cases e : a.toNat = k
  ·subst e
   rw [if_pos rfl, if_pos (by omega)]
   simp
  ·simp [e]
theorem at_takeAll : ∀ (l : List Int) {K : List Bool}, K.length = 34 → ∀ k, at_ (takeAll K l) k = (at_ K k || l.any fun a => hasB a && decide (a.toNat = k))
 | [], K, _, k => by simp [takeAll]
 | a :: r, K, hK, k => by
  have := at_takeAll r (K := takeK K a) (by rw [takeK_length, hK]) k
  rw [takeAll, List.foldl_cons]
  rw [takeAll] at this
  rw [this, at_takeK hK, List.any_cons, Bool.or_assoc]
theorem at_K0 (k : Nat) : at_ K0 k = false := by
 unfold at_ K0
 rw [List.getD_eq_getElem?_getD, List.getElem?_replicate]
 split <;> rfl
theorem at_takenK (S : List Int) (k : Nat) : at_ (takenK S) k = ((k == 0 || k == 1) || (tabS S).any (fun a => hasB a && decide (a.toNat = k)) || (pgS S).any (fun a => hasB a && decide (a.toNat = k))) := by
 unfold takenK
 have h0 : K0.length = 34 := rfl
 rw [at_takeAll _ (by rw [takeAll_length, takeAll_length, h0]), at_takeAll _ (by rw [takeAll_length, h0]), at_takeAll _ h0]
 congr 1
 congr 1
 rw [at_K0]
 rcases k with _ | _ | k
 ·decide
 ·decide
 ·simp [hasB]
theorem taken_root {S : List Int} {k : Nat} (hk : k < 2) : at_ (takenK S) k = true := by
 rw [at_takenK]
 have : k = 0 ∨ k = 1 := by omega
 rcases this with rfl | rfl <;> simp
theorem taken_tab {S : List Int} {a : Int} (ha : a ∈ tabS S) (hb : hasB a = true) : at_ (takenK S) a.toNat = true := by
 rw [at_takenK]
 have : (tabS S).any (fun x => hasB x && decide (x.toNat = a.toNat)) = true := List.any_eq_true.2 ⟨a, ha, by simp [hb]⟩
 simp [this]
theorem taken_pg {S : List Int} {a : Int} (ha : a ∈ pgS S) (hb : hasB a = true) : at_ (takenK S) a.toNat = true := by
 rw [at_takenK]
 have : (pgS S).any (fun x => hasB x && decide (x.toNat = a.toNat)) = true := List.any_eq_true.2 ⟨a, ha, by simp [hb]⟩
 simp [this]
theorem hasB_false_or {a : Int} : hasB a = true ∨ hasB a = false := by cases hasB a <;> simp
theorem heldS_same {S S' : List Int} {a : Int} (h : hasB a = true → a ≠ 0 → sector S' a.toNat = sector S a.toNat) : heldS S' a = heldS S a := by
 unfold heldS
 split
 ·rfl
 ·rename_i hn
  have h1 : hasB a = true := by
   rcases hasB_false_or (a := a) with h | h
   ·exact h
   ·exact absurd (.inr h) hn
  exact h h1 fun h0 => hn (.inl h0)
theorem getD_mem {l : List Int} {i : Nat} (h : i < l.length) : l.getD i 0 ∈ l := by
 rw [List.getD_eq_getElem?_getD, List.getElem?_eq_getElem h]
 exact List.getElem_mem h
theorem stable {S S' : List Int} (hS : S.length = 272) (h : ∀ k, k < 34 → at_ (takenK S) k = true → sector S' k = sector S k) :
  lastRoot S' = lastRoot S ∧ tabS S' = tabS S ∧ pgS S' = pgS S ∧ ∀ i, readS S' i = readS S i := by
 have h0 := h 0 (by decide) (taken_root (by decide))
 have h1 := h 1 (by decide) (taken_root (by decide))
 have e1 : rootMax S' 1 = rootMax S 1 := by
  unfold rootMax
  rw [h0]
  rfl
 have hl : lastRoot S' = lastRoot S := by
  show rootMax S' (1 + 1) = rootMax S (1 + 1)
  unfold rootMax
  rw [h1, e1]
 have ht : tabS S' = tabS S := by rw [tabS, tabS, hl]
 have t2 := tabS_length hS
 have hin : ∀ a : Int, hasB a = true → a.toNat < 34 := fun a hb => by simp [hasB] at hb; omega
 have hp : pgS S' = pgS S := by
  unfold pgS
  rw [ht, heldS_same fun hb _ => h _ (hin _ hb) (taken_tab (getD_mem (by omega)) hb), heldS_same fun hb _ => h _ (hin _ hb) (taken_tab (getD_mem (by omega)) hb)]
 refine ⟨hl, ht, hp, fun i => ?_⟩
 unfold readS
 split
 ·rename_i hi
  have hi' : 0 ≤ i ∧ i < 14 := by simpa [hasP] using hi
  rw [hp]
  exact heldS_same fun hb _ => h _ (hin _ hb) (taken_pg (getD_mem (by rw [pgS_length hS]; omega)) hb)
 ·rfl
structure Good (S : List Int) : Prop where
 len : S.length = 272
 tab : ∀ a ∈ tabS S, a ≠ 1
 pg : ∀ a ∈ pgS S, a ≠ 1
structure Same (S S' : List Int) : Prop where
 good : Good S'
 gen : genS S' = genS S
 read : ∀ i, readS S' i = readS S i
theorem same_of {S S' : List Int} (hG : Good S) (hl : S'.length = 272) (h : ∀ k, k < 34 → at_ (takenK S) k = true → sector S' k = sector S k) : Same S S' := by
 obtain ⟨h1, h2, h3, h4⟩ := stable hG.len h
 exact ⟨⟨hl, by rw [h2]; exact hG.tab, by rw [h3]; exact hG.pg⟩, by rw [genS, genS, h1], h4⟩
theorem hd_root {S : List Int} : ∀ j, 0 ≤ hd (rootMax S j) ∧ ∀ k, k < j → hd (sector S k) ≤ hd (rootMax S j)
 | 0 => ⟨by show 0 ≤ hd z8; decide, fun k hk => by omega⟩
 | j + 1 => by
  obtain ⟨h1, h2⟩ := hd_root (S := S) j
  unfold rootMax
  split
  ·rename_i hgt
   refine ⟨by omega, fun k hk => ?_⟩
   rcases Nat.lt_or_ge k j with h | h
   ·have := h2 k h; omega
   ·have : k = j := by omega
    rw [this]; exact Int.le_refl _
  ·rename_i hgt
   refine ⟨h1, fun k hk => ?_⟩
   rcases Nat.lt_or_ge k j with h | h
   ·exact h2 k h
   ·have : k = j := by omega
    rw [this]; omega
theorem genS_nonneg (S : List Int) : 0 ≤ genS S := (hd_root 2).1
theorem settled_all (L : List Wr) (S : List Int) : settled (fun _ => true) L S = L.foldl upd S := by
 unfold settled stl
 simp only [if_true, List.take_length]
 have : ∀ (L : List Wr) (n : Nat) (S : List Int), (L.zipIdx n).foldl (fun S q => upd S q.1) S = L.foldl upd S := by
  intro L
  induction L with
  | nil => intro n S; rfl
  | cons p r ih => intro n S; rw [List.zipIdx_cons, List.foldl_cons, List.foldl_cons]; exact ih _ _
 exact this L 0 S
theorem sector_foldl_other {L : List Wr} (hL : ∀ p ∈ L, p.1 < 34 ∧ p.2.length = 8) {S : List Int} (hS : S.length = 272) {k : Nat} (hk : k < 34) (hn : ∀ p ∈ L, p.1 ≠ k) : sector (L.foldl upd S) k = sector S k := by
 induction L generalizing S with
 | nil => rfl
 | cons p r ih =>
  have hp := hL p (by simp)
  rw [List.foldl_cons, ih (fun q hq => hL q (List.mem_cons_of_mem _ hq)) (upd_length hS hp) (fun q hq => hn q (List.mem_cons_of_mem _ hq)), sector_upd hS hp hk, if_neg (hn p (by simp))]
theorem sector_foldl_mem {L : List Wr} (hL : ∀ p ∈ L, p.1 < 34 ∧ p.2.length = 8) (hnd : (L.map (·.1)).Nodup) {S : List Int} (hS : S.length = 272) {p : Wr} (hp : p ∈ L) : sector (L.foldl upd S) p.1 = p.2 := by
 induction L generalizing S with
 | nil => simp at hp
 | cons q r ih =>
  have hq := hL q (by simp)
  have hr : ∀ p ∈ r, p.1 < 34 ∧ p.2.length = 8 := fun x hx => hL x (List.mem_cons_of_mem _ hx)
  rw [List.map_cons, List.nodup_cons] at hnd
  rw [List.foldl_cons]
  rcases List.mem_cons.1 hp with rfl | hp
  ·rw [sector_foldl_other hr (upd_length hS hq) hq.1 (fun x hx e => hnd.1 (List.mem_map.2 ⟨x, hx, e⟩)), sector_upd hS hq hq.1, if_pos rfl]
  ·exact ih hr hnd.2 (upd_length hS hq) hp
theorem settled_length {stays : Nat → Bool} {L : List Wr} (hL : ∀ p ∈ L, p.1 < 34 ∧ p.2.length = 8) {S : List Int} (hS : S.length = 272) : (settled stays L S).length = 272 := stl_length hL hS _ (Nat.le_refl _)
theorem sector_stl_other {stays : Nat → Bool} {L : List Wr} {S : List Int} {k : Nat} (hS : S.length = 272) (hL : ∀ p ∈ L, p.1 < 34 ∧ p.2.length = 8) (hk : k < 34) (hn : ∀ p ∈ L, p.1 ≠ k) : ∀ j, j ≤ L.length → sector (stl stays L j S) k = sector S k
 | 0, _ => by rw [stl_zero]
 | j + 1, h => by
  have hp : L[j]? = some L[j] := List.getElem?_eq_getElem h
  have hm : L[j] ∈ L := List.getElem_mem h
  rw [stl_succ stays hp]
  split
  ·rw [sector_upd (stl_length hL hS j (by omega)) (hL _ hm) hk, if_neg (hn _ hm)]
   exact sector_stl_other hS hL hk hn j (by omega)
  ·exact sector_stl_other hS hL hk hn j (by omega)
def lookP (ps : List Pg) (i : Nat) : Option (List Int) := ((ps.filter fun p => p.1 == (i : Int)).getLast?).map (·.2)
theorem lookP_snoc (ps : List Pg) (p : Pg) (i : Nat) : lookP (ps ++ [p]) i = if p.1 = (i : Int) then some p.2 else lookP ps i := by
 unfold lookP
 rw [List.filter_append]
 by_cases h : p.1 = (i : Int)
 ·simp [h]
 ·simp [h]
def cnt (K : List Bool) : Nat := K.count true
theorem cnt_takeK {K : List Bool} (a : Int) : cnt (takeK K a) ≤ cnt K + 1 := by
 unfold takeK cnt
 split
 ·by_cases h : a.toNat < K.length
  ·rw [List.count_set h]
   split <;> split <;> omega
  ·rw [List.set_eq_of_length_le (by omega)]
   omega
 ·omega
theorem cnt_takeAll : ∀ (l : List Int) (K : List Bool), cnt (takeAll K l) ≤ cnt K + l.length
 | [], K => by simp [takeAll]
 | a :: r, K => by
  have h1 := cnt_takeAll r (takeK K a)
  have h2 := cnt_takeK (K := K) a
  rw [takeAll, List.foldl_cons, List.length_cons]
  rw [takeAll] at h1
  omega
theorem cnt_takenK {S : List Int} (hS : S.length = 272) : cnt (takenK S) ≤ 18 := by
 unfold takenK
 have h1 := cnt_takeAll (pgS S) (takeAll (takeAll K0 [0, 1]) (tabS S))
 have h2 := cnt_takeAll (tabS S) (takeAll K0 [0, 1])
 have h3 : cnt (takeAll K0 [0, 1]) = 2 := by decide +kernel
 rw [pgS_length hS] at h1
 rw [tabS_length hS] at h2
 omega
theorem free_spec {K : List Bool} (hK : K.length = 34) (hc : cnt K < 34) : freeK K < 34 ∧ at_ K (freeK K) = false := by
 have hex : ∃ k, k < 34 ∧ at_ K k = false := by
  have hne : ¬ cnt K = K.length := by omega
  unfold cnt at hne
  rw [List.count_eq_length] at hne
  have : ∃ b ∈ K, ¬ true = b := by
   apply Classical.byContradiction
   intro hno
   exact hne fun b hb => Classical.byContradiction fun hn => hno ⟨b, hb, hn⟩
  obtain ⟨b, hb, hnb⟩ := this
  obtain ⟨k, hk⟩ := List.getElem?_of_mem hb
  have hlt : k < K.length := (List.getElem?_eq_some_iff.1 hk).1
  refine ⟨k, by omega, ?_⟩
  unfold at_
  rw [List.getD_eq_getElem?_getD, hk]
  cases b
  ·rfl
  ·exact absurd rfl hnb
 obtain ⟨k, hk, hf⟩ := hex
 unfold freeK firstOf
 cases hfind : (List.range 34).find? (fun i => !K.getD i false) with
 | none =>
  rw [List.find?_eq_none] at hfind
  have := hfind k (List.mem_range.2 hk)
  unfold at_ at hf
  rw [hf] at this
  simp at this
 | some j =>
  have h1 := List.mem_of_find?_eq_some hfind
  have h2 := List.find?_some hfind
  refine ⟨List.mem_range.1 h1, ?_⟩
  unfold at_
  simpa using h2
structure PInv (S : List Int) (x : Plan) (W : List Wr) : Prop where
 nlen : x.N.length = 17
 klen : x.K.length = 34
 sup : ∀ k, at_ (takenK S) k = true → at_ x.K k = true
 deeds : x.D = W.map fun p => some ((p.1 : Int), p.2)
 mem : ∀ p ∈ W, p.1 < 34 ∧ p.2.length = 8 ∧ at_ (takenK S) p.1 = false ∧ at_ x.K p.1 = true
 nd : (W.map (·.1)).Nodup
 c : cnt x.K ≤ 18 + W.length
theorem PInv.lay {S : List Int} {x : Plan} {W : List Wr} (h : PInv S x W) (hW : W.length < 16) {ws : List Int} (hw : ws.length = 8) {N' : List Int} (hN : N'.length = 17) :
  PInv S ⟨N', takeK x.K (freeK x.K : Nat), x.D ++ [some (((freeK x.K : Nat) : Int), ws)]⟩ (W ++ [(freeK x.K, ws)]) := by
 obtain ⟨h1, h2⟩ := free_spec h.klen (by have := h.c; omega)
 have hb : hasB ((freeK x.K : Nat) : Int) = true := by simp [hasB]; omega
 have hat : ∀ k, at_ (takeK x.K (freeK x.K : Nat)) k = (at_ x.K k || decide (freeK x.K = k)) := fun k => by
  rw [at_takeK h.klen, hb]
  simp
 refine ⟨hN, by simp [takeK_length, h.klen], fun k hk => by simp only [hat, h.sup k hk, Bool.true_or], by rw [h.deeds]; simp, fun p hp => ?_, ?_, ?_⟩
 ·rcases List.mem_append.1 hp with hp | hp
  ·obtain ⟨a, b, c, d⟩ := h.mem p hp
   exact ⟨a, b, c, by simp only [hat, d, Bool.true_or]⟩
  ·simp at hp
   subst hp
   refine ⟨h1, hw, ?_, by simp [hat]⟩
   cases ht : at_ (takenK S) (freeK x.K) with
   | false => rfl
   | true => rw [h.sup _ ht] at h2; cases h2
 ·rw [List.map_append, List.nodup_append]
  refine ⟨h.nd, by simp, fun a ha b hb e => ?_⟩
  simp at hb
  obtain ⟨p, hp, rfl⟩ := List.mem_map.1 ha
  have := (h.mem p hp).2.2.2
  rw [e, hb, h2] at this
  cases this
 ·have := cnt_takeK (K := x.K) ((freeK x.K : Nat) : Int)
  have := h.c
  simp only [List.length_append, List.length_singleton]
  omega
theorem getD_set_same {l : List Int} {i : Nat} (h : i < l.length) (x : Int) : (l.set i x).getD i 0 = x := by
 rw [List.getD_eq_getElem?_getD, List.getElem?_set]
 simp [h]
theorem getD_set_other {l : List Int} {i j : Nat} (h : i ≠ j) (x : Int) : (l.set i x).getD j 0 = l.getD j 0 := by
 rw [List.getD_eq_getElem?_getD, List.getElem?_set]
 simp [h]
theorem cnt_ahead {done : List Int} {i : Int} (hi : hasP i = true) (hn : done.contains i = false) : cnt (ahead (done ++ [i])) = cnt (ahead done) + 1 := by
 have h14 := ahead_length done
 have hi' : 0 ≤ i ∧ i < 14 := by simpa [hasP] using hi
 have hlt : i.toNat < (ahead done).length := by omega
 have hat := ahead_at done hi
 rw [List.getElem?_eq_getElem hlt, hn] at hat
 have hat' : (ahead done)[i.toNat] = false := by simpa using hat
 rw [← ahead_set _ hi, cnt, List.count_set hlt, hat']
 simp [cnt]
theorem chkFrom_len : ∀ {ps : List Pg} {done : List Int}, chkFrom done ps = 0 → cnt (ahead done) + ps.length ≤ 14
 | [], done, _ => by
  have : cnt (ahead done) ≤ (ahead done).length := List.count_le_length
  rw [ahead_length] at this
  simpa using this
 | p :: r, done, h => by
  unfold chkFrom at h
  split at h
  ·cases h
  ·rename_i h1
   split at h
   ·cases h
   ·rename_i h2
    have := chkFrom_len h
    rw [cnt_ahead (by simpa using h1) (by simpa using h2)] at this
    simp only [List.length_cons]
    omega
theorem chk_len {ps : List Pg} (h : chk ps = 0) : ps.length ≤ 14 := by
 have := chkFrom_len h
 omega
def Leads (S : List Int) (ps : List Pg) (W : List Wr) (N : List Int) : Prop :=
 N.getD 0 0 = genS S + 1 ∧ ∀ i, i < 14 → match lookP ps i with
  | some ws => ∃ k, (k, ws) ∈ W ∧ N.getD (3 + i) 0 = (k : Int)
  | none => N.getD (3 + i) 0 = (pgS S).getD i 0
theorem planP_inv {S : List Int} (hS : S.length = 272) {ps : List Pg} (hc : chk ps = 0) (hwf : ∀ p ∈ ps, p.2.length = 8) : ∀ j, j ≤ ps.length → ∃ W, PInv S (planP S (ps.take j)) W ∧ W.length = j ∧ Leads S (ps.take j) W (planP S (ps.take j)).N
 | 0, _ => by
  have t2 := tabS_length hS
  have p14 := pgS_length hS
  refine ⟨[], ⟨by simp [planP, nextN, t2, p14], ?_, fun k hk => hk, rfl, by simp, by simp, ?_⟩, rfl, rfl, fun i hi => ?_⟩
  ·show (takenK S).length = 34
   simp [takenK, takeAll_length, K0]
  ·have := cnt_takenK hS
   simpa [planP] using this
  ·obtain ⟨a, b, h⟩ := list2 t2
   show ((genS S + 1) :: (tabS S ++ pgS S)).getD (3 + i) 0 = _
   rw [h, Nat.add_comm]
   rfl
 | j + 1, hj => by
  obtain ⟨W, h1, h2, h3, h4⟩ := planP_inv hS hc hwf j (by omega)
  have h14 := chk_len hc
  obtain ⟨p, hp⟩ : ∃ p, ps[j]? = some p := ⟨_, List.getElem?_eq_getElem hj⟩
  have hpm := List.mem_of_getElem? hp
  have hi : 0 ≤ p.1 ∧ p.1 < 14 := by simpa [hasP] using chkFrom_ok hc p hpm
  have hn := h1.nlen
  rw [planP_snoc S hp]
  refine ⟨W ++ [(freeK (planP S (ps.take j)).K, p.2)], h1.lay (by omega) (hwf p hpm) (by simp [hn]), by simp [h2], ?_, fun i hi14 => ?_⟩
  ·show ((planP S (ps.take j)).N.set (3 + p.1.toNat) _).getD 0 0 = _
   rw [getD_set_other (by omega)]
   exact h3
  ·have e : ps.take (j + 1) = ps.take j ++ [p] := by
    have hlt : j < ps.length := hj
    rw [List.take_succ_eq_append_getElem hlt, (List.getElem?_eq_some_iff.1 hp).2]
   rw [e, lookP_snoc]
   show match (if p.1 = (i : Int) then some p.2 else lookP (ps.take j) i) with
    | some ws => ∃ k, (k, ws) ∈ W ++ [(freeK (planP S (ps.take j)).K, p.2)] ∧ ((planP S (ps.take j)).N.set (3 + p.1.toNat) (freeK (planP S (ps.take j)).K : Nat)).getD (3 + i) 0 = (k : Int)
    | none => ((planP S (ps.take j)).N.set (3 + p.1.toNat) (freeK (planP S (ps.take j)).K : Nat)).getD (3 + i) 0 = (pgS S).getD i 0
   by_cases hpi : p.1 = (i : Int)
   ·rw [if_pos hpi]
    refine ⟨freeK (planP S (ps.take j)).K, by simp, ?_⟩
    rw [show 3 + p.1.toNat = 3 + i by omega, getD_set_same (by omega)]
   ·rw [if_neg hpi, getD_set_other (by omega)]
    have := h4 i hi14
    split at this
    ·rename_i ws hws
     obtain ⟨k, hk1, hk2⟩ := this
     exact ⟨k, List.mem_append_left _ hk1, hk2⟩
    ·exact this
end E
end Go.Proofs.YtoigoojdbpbhoagGreatDoor
