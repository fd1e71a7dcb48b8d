/- Several texts in one: DiskC, DiskD, DiskE, Sect, StoA, StoB, StoC, StoD, StoE. -/
import Derived.Test.YtmplkogkphmmjafGreatJ09
import Derived.Test.YtmplkogkphmmjafGreatJ03
/- Contracts of the closures of Crash and Read, of Disk.last and Disk.Read. -/
namespace Go.Proofs.YtmplkogkphmmjafGreat
set_option maxRecDepth 20000
set_option maxHeartbeats 4000000
namespace E
open Go.Proofs

/-- Whether a mask has the bit of a number. -/
def maskB (mask : Int) (i : Nat) : Bool := IntKind.u64.wrap (BitVec.ofInt 64 (mask.fdiv (2 ^ (i % 64))) &&& BitVec.ofInt 64 1).toNat == 1

theorem crash1_ret {w : World} {c : Nat} {mask : Int} {e : TypeId} (hc : Blk w c [.int .u64 mask] e) (i : Nat) :
    Ret Tryz.prog 89 [.int .i64 i, .pointer (some ⟨c, 0, none⟩)] w fun v w' => v = .bool (maskB mask i) ∧ w' = w := by
  refine ret_of 10 Tryz.func89 rfl rfl (by simp) ?_
  refine au ?_
  refine pl_val (.int .u64 mask) rfl rfl (val_load1 hT rfl rfl rfl (hc.cell rfl)) ?_
  refine au ?_
  refine pl_val (.int .i64 ((i % 64 : Nat) : Int)) rfl rfl (val_int .i64 i 64 _ rfl rfl rfl (by simp [intOp]; rfl) w) ?_
  refine pl_val _ rfl rfl (val_shr .u64 .i64 mask ((i % 64 : Nat) : Int) (mask.fdiv (2 ^ (i % 64))) rfl rfl rfl (by omega) (by
    rw [Int.toNat_natCast, show IntKind.u64.bits = 64 from rfl, Nat.min_eq_left (by omega)]) w) ?_
  refine pl_val _ rfl rfl (val_int .u64 _ 1 _ rfl rfl rfl rfl w) ?_
  refine pl_val _ rfl rfl (val_int .u64 _ 1 _ rfl rfl rfl rfl w) ?_
  refine au ?_
  exact rn_ret Tryz.func89 (.inl ⟨_, rfl, rfl⟩) ⟨rfl, rfl⟩

/-- The last write of those that are such. -/
def lastOf (is : Wr → Bool) (L : List Wr) : Option Wr := (L.filter is).getLast?

theorem lastOf_none {is : Wr → Bool} {L : List Wr} (h : ∀ p ∈ L.drop 0, is p = false) : lastOf is L = none := by
  have : L.filter is = [] := List.filter_eq_nil_iff.2 fun p hp => by simp [h p (by simpa using hp)]
  simp [lastOf, this]
theorem lastOf_some {is : Wr → Bool} {L : List Wr} {j : Nat} {p : Wr} (hp : L[j]? = some p) (hi : is p = true) (h : ∀ p ∈ L.drop (j + 1), is p = false) : lastOf is L = some p := by
  have hlt : j < L.length := (List.getElem?_eq_some_iff.1 hp).1
  have hj : L[j] = p := (List.getElem?_eq_some_iff.1 hp).2
  have e : L = L.take j ++ p :: L.drop (j + 1) := by
    rw [← hj, List.getElem_cons_drop, List.take_append_drop]
  have h0 : (L.drop (j + 1)).filter is = [] := List.filter_eq_nil_iff.2 fun p hp => by simp [h p hp]
  rw [lastOf, e, List.filter_append, List.filter_cons_of_pos hi, h0]
  simp

theorem wcell_length {p : Wr} (h : p.2.length = 8) : (wcell p).length = 9 := by simp [wcell, ints_length, h]

theorem DiskV.at {B : Nat} {w : World} {d : Nat} {S : List Int} {L : List Wr} {wv : Value} (h : DiskV B w d S L wv) {j : Nat} {p : Wr} (hp : L[j]? = some p) :
    ∃ g cap, wv = .slice (some ⟨g, 0, none⟩) L.length cap ∧ w.rangeAt g (0 + j * 9) (wcell p) := by
  have hlt : j < L.length := (List.getElem?_eq_some_iff.1 hp).1
  have hm : p ∈ L := List.mem_of_getElem? hp
  rcases h.owns.2 with ⟨_, h2⟩ | ⟨g, cap, cur, hv, _⟩
  · omega
  · refine ⟨g, cap, hv, ?_⟩
    have ho := h.owns
    rw [hv] at ho
    refine owns_range ho ?_
    rw [wcell_length (h.wf p hm).2, Nat.zero_add]
    exact flat_at (fun q hq => wcell_length (h.wf q hq).2) hp

theorem zero_write : ((Tryz.prog.info? 184).bind (·.zero)).map (·.cells) = some (wcell (0, List.replicate 8 0)).toArray := by kernel_rfl
theorem built_write0 : Tryz.prog.built 184 [] = some (wcell (0, List.replicate 8 0)).toArray := by kernel_rfl
theorem zero_words : ((Tryz.prog.info? 109).bind (·.zero)).map (·.cells) = some (ints (List.replicate 8 0)).toArray := by kernel_rfl
theorem built_words0 : Tryz.prog.built 109 [] = some (ints (List.replicate 8 0)).toArray := by kernel_rfl

def wzero : Wr := (0, List.replicate 8 0)

theorem splice_all {L vs : List Value} (h : vs.length = L.length) : splice L 0 vs = vs := by
  simp [splice, h]

theorem wcell_one (p : Wr) : ∀ u ∈ wcell p, u.oneCell' = true := by
  intro u hu
  rcases List.mem_cons.1 hu with rfl | hu
  · rfl
  · exact ints_one p.2 u hu

end E
end Go.Proofs.YtmplkogkphmmjafGreat

/- The contracts of Disk.Read, Disk.settle, Disk.Flush, Disk.Crash, Disk.Sure. -/
namespace Go.Proofs.YtmplkogkphmmjafGreat
set_option maxRecDepth 20000
set_option maxHeartbeats 4000000
namespace E
open Go.Proofs

/-- What is read of a sector. -/
def readD (S : List Int) (L : List Wr) (i : Int) : List Int :=
  if hasB i then (match lastOf (fun p => (p.1 : Int) == i) L with
    | some p => p.2
    | none => (S.drop (i.toNat * 8)).take 8) else List.replicate 8 0

theorem lastOf_mem {is : Wr → Bool} {L : List Wr} {p : Wr} (h : lastOf is L = some p) : p ∈ L := by
  have := List.mem_of_getLast? h
  exact (List.mem_filter.1 this).1

theorem readD_length {S : List Int} {L : List Wr} {i : Int} (hS : S.length = 272) (hL : ∀ p ∈ L, p.1 < 34 ∧ p.2.length = 8) : (readD S L i).length = 8 := by
  unfold readD
  split
  · rename_i h
    simp [hasB] at h
    split
    · rename_i p hp; exact (hL p (lastOf_mem hp)).2
    · simp [hS]; omega
  · simp

theorem sector_cells {S : List Int} (hS : S.length = 272) (u : Value) (j : Nat) (hj : j < 34) : ((ints S ++ [u]).drop (j * 8)).take 8 = ints ((S.drop (j * 8)).take 8) := by
  rw [List.drop_append_of_le_length (by rw [ints_length]; omega), List.take_append_of_le_length (by simp [ints_length]; omega)]
  simp [ints, List.map_take, List.map_drop]

end E
end Go.Proofs.YtmplkogkphmmjafGreat

/- The contracts of Disk.settle, Disk.Flush, Disk.Crash, Disk.Sure. -/
namespace Go.Proofs.YtmplkogkphmmjafGreat
set_option maxRecDepth 20000
set_option maxHeartbeats 4000000
namespace E
open Go.Proofs

def upd (S : List Int) (p : Wr) : List Int := S.take (p.1 * 8) ++ p.2 ++ S.drop (p.1 * 8 + 8)

theorem upd_length {S : List Int} {p : Wr} (hS : S.length = 272) (hp : p.1 < 34 ∧ p.2.length = 8) : (upd S p).length = 272 := by
  simp [upd, hS, hp.2]; omega

/-- What the sectors hold when the first j of the writes are settled. -/
def stl (stays : Nat → Bool) (L : List Wr) (j : Nat) (S : List Int) : List Int := ((L.take j).zipIdx).foldl (fun S q => if stays q.2 then upd S q.1 else S) S

theorem stl_zero (stays : Nat → Bool) (L : List Wr) (S : List Int) : stl stays L 0 S = S := by simp [stl]
theorem stl_succ (stays : Nat → Bool) {L : List Wr} {j : Nat} {p : Wr} (hp : L[j]? = some p) (S : List Int) : stl stays L (j + 1) S = if stays j then upd (stl stays L j S) p else stl stays L j S := by
  have hlt : j < L.length := (List.getElem?_eq_some_iff.1 hp).1
  have hj : L[j] = p := (List.getElem?_eq_some_iff.1 hp).2
  unfold stl
  rw [List.take_succ_eq_append_getElem hlt, List.zipIdx_append, List.foldl_append, hj]
  simp [Nat.min_eq_left (Nat.le_of_lt hlt)]
theorem stl_length {stays : Nat → Bool} {L : List Wr} (hL : ∀ p ∈ L, p.1 < 34 ∧ p.2.length = 8) {S : List Int} (hS : S.length = 272) : ∀ j, j ≤ L.length → (stl stays L j S).length = 272
  | 0, _ => by rw [stl_zero, hS]
  | j + 1, h => by
    have hp : L[j]? = some L[j] := List.getElem?_eq_getElem h
    rw [stl_succ stays hp]
    split
    · exact upd_length (stl_length hL hS j (by omega)) (hL _ (List.getElem_mem h))
    · exact stl_length hL hS j (by omega)

def settled (stays : Nat → Bool) (L : List Wr) (S : List Int) : List Int := stl stays L L.length S

theorem splice_upd {S : List Int} (hS : S.length = 272) (u : Value) {p : Wr} (hp : p.1 < 34 ∧ p.2.length = 8) : splice (ints S ++ [u]) (0 + p.1 * 8) (ints p.2) = ints (upd S p) ++ [u] := by
  have e1 : (ints S ++ [u]).take (0 + p.1 * 8) = ints (S.take (p.1 * 8)) := by
    rw [Nat.zero_add, List.take_append_of_le_length (by rw [ints_length]; omega)]
    simp [ints, List.map_take]
  have e2 : (ints S ++ [u]).drop (0 + p.1 * 8 + (ints p.2).length) = ints (S.drop (p.1 * 8 + 8)) ++ [u] := by
    rw [Nat.zero_add, ints_length, hp.2, List.drop_append_of_le_length (by rw [ints_length]; omega)]
    simp [ints, List.map_drop]
  rw [splice, e1, e2, upd]
  simp [ints]

theorem settle_ret {B : Nat} {w : World} {d : Nat} {S : List Int} {L : List Wr} {wv : Value} (h : DiskV B w d S L wv) (hL : L.length < 1000000) (stays : Nat → Bool) (g : Nat) (cap : List Value) (hg : callable Tryz.prog g = true)
    (hclo : ∀ i, i < L.length → ∀ w1, Keep [d] w w1 → Ret Tryz.prog g (.int .i64 (i : Nat) :: cap) w1 fun v w' => v = .bool (stays i) ∧ Keep [] w1 w') :
    Ret Tryz.prog 88 [.pointer (some ⟨d, 0, none⟩), .func (.func g) #[] cap.toArray] w fun v w' =>
      v = .tuple #[] ∧ DiskV B w' d (settled stays L S) [] (.slice none 0 0) ∧ Keep [d] w w' := by
  refine ret_of 31 Tryz.func88 rfl rfl (by simp) ?_
  refine au ?_
  refine pl_val wv rfl rfl (val_load1 hT rfl rfl rfl (h.blk.cell (by simp [h.len, ints_length]))) ?_
  have hv : ∃ a cap, wv = .slice a L.length cap := by
    rcases h.owns.2 with ⟨h1, h2⟩ | ⟨g, cap, cur, h1, _⟩
    · exact ⟨none, 0, by rw [h1, h2]⟩
    · exact ⟨_, cap, h1⟩
  obtain ⟨wa, wcap, hwv⟩ := hv
  refine pl_val (.int .i64 L.length) rfl rfl (val_pure hT (by subst hwv; rfl) w) ?_
  refine au ?_
  refine rn_ind (fun m σ w' => ∃ j, m = L.length - j ∧ j ≤ L.length ∧ σ = [(0, .pointer (some ⟨d, 0, none⟩)), (1, .func (.func g) #[] cap.toArray), (9, wv), (10, .int .i64 L.length), (11, .int .i64 (j : Nat))] ∧ DiskV B w' d (stl stays L j S) L wv ∧ Keep [d] w w')
    (L.length - 0) _ ?_ ⟨0, rfl, Nat.zero_le _, rfl, by rw [stl_zero]; exact h, Keep.refl _ _⟩ ?_
  · exact ⟨rfl, rfl, rfl, rfl, rfl, trivial⟩
  rintro m σ w2 ih ⟨j, hm, hj, rfl, h2, hk2⟩
  refine au ?_
  rcases Nat.lt_or_ge j L.length with hlt | hge
  · refine pl_val (.bool true) rfl rfl (val_int .i64 _ _ _ rfl rfl rfl (by simp [intOp, hlt]) w2) ?_
    refine au ?_
    obtain ⟨p, hp⟩ : ∃ p, L[j]? = some p := ⟨L[j], List.getElem?_eq_getElem hlt⟩
    obtain ⟨gb, gcap, hgv, hrange⟩ := h2.at hp
    have hpm : p ∈ L := List.mem_of_getElem? hp
    have hpw := h.wf p hpm
    refine pl_val _ rfl rfl (val_index j hT rfl (by rw [hgv]; rfl) rfl rfl rfl hlt w2) ?_
    refine pl_val (.agg (wcell p).toArray) rfl rfl (val_load _ hT rfl rfl (by rw [wcell_length hpw.2]; rfl) hrange) ?_
    refine pl_op rfl rfl (opTo_alloc _ rfl zero_write ?_)
    have hk3 : Keep [] w2 (w2.alloc (.cells (wcell (0, List.replicate 8 0)).toArray 184)) := (Keep.refl _ _).alloc _
    have hx3 : Blk (w2.alloc (.cells (wcell (0, List.replicate 8 0)).toArray 184)) w2.heap.size (wcell (0, List.replicate 8 0)) 184 := Blk.new _ _ _
    generalize (w2.alloc (.cells (wcell (0, List.replicate 8 0)).toArray 184)) = w3 at *
    refine au ?_
    refine pl_op rfl rfl (opTo_store _ rfl rfl rfl rfl (by rw [wcell_length hpw.2]; decide +kernel) hx3 (by rw [wcell_length hpw.2]; decide) (wcell_one _) ?_)
    rw [splice_all (by rw [wcell_length hpw.2]; rfl)]
    have hk4 : Keep [] w2 (w3.setRow w2.heap.size (wcell p).toArray) := hk3.setRow _ _ (.inr (Nat.le_refl _))
    have hx4 := hx3.set (wcell p)
    generalize (w3.setRow w2.heap.size (wcell p).toArray) = w4 at *
    refine au ?_
    refine pl_op rfl rfl (opTo_call rfl rfl rfl rfl hg ((hclo j hlt w4 (hk2.tr0 hk4)).mono ?_))
    rintro v w5 ⟨rfl, hk5⟩
    have hk25 : Keep [] w2 w5 := hk4.tr0 hk5
    have h5 := h2.keep hk25 (by simp)
    have hx5 := hk5.blk hx4 (by simp)
    have hnd : w2.heap.size ≠ d := by have := h2.blk.lt; omega
    cases hs : stays j with
    | false =>
      refine au ?_
      refine pl_val (.int .i64 ((j + 1 : Nat) : Int)) rfl rfl (val_int .i64 j 1 _ rfl rfl rfl (by simp only [intOp]; rw [wrap_i64 (by omega) (by omega)]; rfl) w5) ?_
      refine au ?_
      refine rn_sub ?_ (ih (L.length - (j + 1)) _ w5 (by omega) ⟨j + 1, rfl, hlt, rfl, by rw [stl_succ stays hp, hs]; exact h5, hk2.tr0 hk25⟩)
      exact ⟨rfl, rfl, rfl, rfl, rfl, trivial⟩
    | true =>
      refine au ?_
      have hS : Keep [d] w5 w5.drew := (Keep.refl _ _).drew
      have hlen : (ints p.2).length = 8 := by rw [ints_length, hpw.2]
      have hxd : w2.heap.size ∉ [d] := by simpa using hnd
      refine rn_draw (fun w' => Keep [d] w5 w') [] hMix ?_
      refine tk 0 ?_
      refine tk 1 ?_
      refine dr_val 2 (.int .i64 p.1) rfl (by decide +kernel) rfl rfl (fun w' hk => val_load1 hT rfl rfl rfl ((hk.blk hx5 hxd).cell rfl)) hS ?_
      refine tk 3 ?_
      refine dr_val 4 (.agg (ints p.2).toArray) rfl (by decide +kernel) rfl rfl (fun w' hk => val_load _ hT rfl rfl (by rw [hlen]; rfl) ((hk.blk hx5 hxd).range (by simp [wcell]))) hS ?_
      refine tk 5 ?_
      refine tk 6 ?_
      refine dr_val 7 _ rfl (by decide +kernel) rfl rfl (fun w' _ => val_indexArr p.1 hT rfl rfl rfl rfl rfl hpw.1 w') hS ?_
      refine dr_op 8 rfl (by decide +kernel) rfl rfl (opTo_store _ rfl rfl rfl rfl (by rw [hlen]; decide +kernel) h5.blk.drew (by rw [hlen, List.length_append, ints_length, h5.len]; simp; omega) (ints_one _) ⟨fun _ => hS.setRow _ _ (.inl (by simp)), ?_⟩)
      rw [Nat.add_zero, splice_upd h5.len wv hpw]
      refine dr_done (by decide +kernel) ?_
      have hbn := h5.blk.drew.set (ints (upd (stl stays L j S) p) ++ [wv])
      have hkd : Keep [d] w5 (w5.drew.setRow d (ints (upd (stl stays L j S) p) ++ [wv]).toArray) := hS.setRow _ _ (.inl (by simp))
      generalize (w5.drew.setRow d (ints (upd (stl stays L j S) p) ++ [wv]).toArray) = w6 at *
      refine au ?_
      refine pl_val (.int .i64 ((j + 1 : Nat) : Int)) rfl rfl (val_int .i64 j 1 _ rfl rfl rfl (by simp only [intOp]; rw [wrap_i64 (by omega) (by omega)]; rfl) w6) ?_
      refine au ?_
      refine rn_sub ?_ (ih (L.length - (j + 1)) _ w6 (by omega) ⟨j + 1, rfl, hlt, rfl, ?_, (hk2.tr0 hk25).tr hkd⟩)
      · exact ⟨rfl, rfl, rfl, rfl, rfl, trivial⟩
      · rw [stl_succ stays hp, hs]
        exact ⟨hbn, hkd.owns h5.owns fun k e => by
          simp only [List.mem_singleton]
          intro e2
          exact h.ne (e2 ▸ e), h.ne, upd_length h5.len hpw, h.base, h.wf⟩
  · have hjj : j = L.length := by omega
    subst hjj
    refine pl_val (.bool false) rfl rfl (val_int .i64 _ _ _ rfl rfl rfl (by simp [intOp]) w2) ?_
    refine au ?_
    refine pl_op rfl rfl (opTo_store _ rfl rfl rfl rfl (by kernel_rfl) h2.blk (by simp [ints_length, h2.len]) (by simp; rfl) ?_)
    rw [splice_last h2.len]
    refine au ?_
    exact rn_end Tryz.func88 (.inr (.inl ⟨rfl, rfl⟩)) ⟨rfl, ⟨h2.blk.set _, World.ownsRow_nil _ _ _ _, by simp [Value.ownBlock], h2.len, h.base, by simp⟩, hk2.setRow _ _ (.inl (by simp))⟩

theorem flush_ret {B : Nat} {w : World} {d : Nat} {S : List Int} {L : List Wr} {wv : Value} (h : DiskV B w d S L wv) (hL : L.length < 1000000) :
    Ret Tryz.prog 155 [.pointer (some ⟨d, 0, none⟩)] w fun v w' => v = .tuple #[] ∧ DiskV B w' d (settled (fun _ => true) L S) [] (.slice none 0 0) ∧ Keep [d] w w' := by
  refine ret_of 4 Tryz.func155 rfl rfl (by simp) ?_
  refine au ?_
  refine pl_op rfl rfl (opTo_call rfl rfl rfl rfl (by decide +kernel) ((settle_ret h hL (fun _ => true) 158 [] (by decide +kernel) (fun i _ w1 _ => (flush1_ret i w1).mono fun v w' hv => ⟨hv.1, hv.2 ▸ Keep.refl _ _⟩)).mono ?_))
  rintro v w1 ⟨rfl, h1, hk⟩
  refine au ?_
  exact rn_end Tryz.func155 (.inr (.inl ⟨rfl, rfl⟩)) ⟨rfl, h1, hk⟩

theorem crash_ret {B : Nat} {w : World} {d : Nat} {S : List Int} {L : List Wr} {wv : Value} (h : DiskV B w d S L wv) (hL : L.length < 1000000) (mask : Int) :
    Ret Tryz.prog 63 [.pointer (some ⟨d, 0, none⟩), .int .u64 mask] w fun v w' => v = .tuple #[] ∧ DiskV B w' d (settled (maskB mask) L S) [] (.slice none 0 0) ∧ Keep [d] w w' := by
  refine ret_of 7 Tryz.func63 rfl rfl (by simp) ?_
  refine au ?_
  refine pl_op rfl rfl (opTo_box [.int .u64 mask] rfl rfl rfl ?_)
  have hk1 : Keep [] w (w.alloc (.cells [Value.int .u64 mask].toArray 43)) := (Keep.refl _ _).alloc _
  have hc : Blk (w.alloc (.cells [Value.int .u64 mask].toArray 43)) w.heap.size [.int .u64 mask] 43 := Blk.new _ _ _
  generalize (w.alloc (.cells [Value.int .u64 mask].toArray 43)) = w1 at *
  have hnd : w.heap.size ≠ d := by have := h.blk.lt; omega
  refine au ?_
  refine pl_op rfl rfl (opTo_call rfl rfl rfl rfl (by decide +kernel) ((settle_ret (h.keep hk1 (by simp)) hL (maskB mask) 89 [.pointer (some ⟨w.heap.size, 0, none⟩)] (by decide +kernel)
    (fun i _ w2 hk2 => (crash1_ret (hk2.blk hc (by simpa using hnd)) i).mono fun v w' hv => ⟨hv.1, hv.2 ▸ Keep.refl _ _⟩)).mono ?_))
  rintro v w2 ⟨rfl, h2, hk2⟩
  refine au ?_
  exact rn_end Tryz.func63 (.inr (.inl ⟨rfl, rfl⟩)) ⟨rfl, h2, (hk1.of0).tr hk2⟩

theorem clone_ret {w : World} {b : Nat} {cs : List Value} (hr : w.rangeAt b 0 cs) (hl : cs.length = 272) (h1 : ∀ u ∈ cs, u.oneCell' = true) :
    Ret Tryz.prog 130 [.slice (some ⟨b, 0, none⟩) 34 34] w fun v w' => ∃ g cap, v = .slice (some ⟨g, 0, none⟩) 34 cap ∧ w'.ownsRow w.heap.size 109 8 v 34 cs ∧ Keep [] w w' := by
  refine ret_of 8 Tryz.func130 rfl rfl (by simp) ?_
  refine au ?_
  refine pl_val (.bool false) rfl rfl (val_notNil hT rfl rfl rfl w) ?_
  refine au ?_
  refine pl_op rfl rfl (opTo_buildSlice 109 [] rfl rfl (by kernel_rfl) ?_)
  have hk1 : Keep [] w (w.alloc (.cells ([] : List Value).toArray 109)) := (Keep.refl _ _).alloc _
  have hb1 : Blk (w.alloc (.cells ([] : List Value).toArray 109)) w.heap.size [] 109 := Blk.new _ _ _
  have hr1 : (w.alloc (.cells ([] : List Value).toArray 109)).rangeAt b 0 cs := World.rangeAt_alloc hr _
  generalize (w.alloc (.cells ([] : List Value).toArray 109)) = w1 at *
  refine au ?_
  refine pl_op rfl rfl (opTo_append w.heap.size 109 8 64 [] cs rfl rfl rfl (by decide +kernel) (by decide) ⟨rfl, .inr ⟨w.heap.size, 0, #[], rfl, Nat.le_refl _, hb1, Nat.le_refl _, by decide, rfl, rfl⟩⟩ hr1 hl h1 (by decide) (by decide) (by decide) (by have := hk1.size; omega) ?_)
  intro g cap w2 hown hgrow hat hlt
  refine au ?_
  refine rn_ret Tryz.func130 (.inl ⟨_, rfl, rfl⟩) ⟨g, cap, rfl, by simpa using hown, hk1.grown hgrow fun k e => ?_⟩
  simp only [Value.ownBlock, Option.some.injEq] at e
  exact .inr (by omega)

theorem sure_ret {B : Nat} {w : World} {d : Nat} {S : List Int} {L : List Wr} {wv : Value} (h : DiskV B w d S L wv) :
    Ret Tryz.prog 106 [.pointer (some ⟨d, 0, none⟩)] w fun v w' => ∃ g cap, v = .slice (some ⟨g, 0, none⟩) 34 cap ∧ w'.ownsRow w.heap.size 109 8 v 34 (ints S) ∧ Keep [] w w' := by
  refine ret_of 8 Tryz.func106 rfl rfl (by simp) ?_
  refine au ?_
  refine pl_val _ rfl rfl (val_sliceArr hT rfl rfl rfl w) ?_
  refine pl_op rfl rfl (opTo_call rfl rfl rfl rfl (by decide +kernel) ((clone_ret (h.blk.range (by simp)) (by rw [ints_length, h.len]) (ints_one S)).mono ?_))
  rintro v w1 ⟨g, cap, rfl, ho, hk⟩
  refine au ?_
  exact rn_ret Tryz.func106 (.inl ⟨_, rfl, rfl⟩) ⟨g, cap, rfl, ho, hk⟩
end E
end Go.Proofs.YtmplkogkphmmjafGreat

/- Sectors of a disk: plain mathematics, with no law's function. -/
namespace Go.Proofs.YtmplkogkphmmjafGreat
set_option maxRecDepth 20000
set_option maxHeartbeats 4000000
namespace E
open Go.Proofs

theorem Keep.range {fp : List Nat} {w w' : World} (h : Keep fp w w') {b q : Nat} {cs : List Value} (hr : w.rangeAt b q cs) (hlt : b < w.heap.size) (hn : b ∉ fp) : w'.rangeAt b q cs := fun j v hv => by
  rw [World.cell?_of_block (w := w) (h.block b hlt hn)]
  exact hr j v hv

theorem range_sub {w : World} {b q : Nat} {cs ds : List Value} (h : w.rangeAt b q cs) (k : Nat) (hd : (cs.drop k).take ds.length = ds) : w.rangeAt b (q + k) ds := fun j v hv => by
  rw [Nat.add_assoc]
  refine h (k + j) v ?_
  rw [← hd, List.getElem?_take] at hv
  split at hv
  · simpa using hv
  · cases hv

def sector (S : List Int) (k : Nat) : List Int := (S.drop (k * 8)).take 8
theorem sector_length {S : List Int} (h : S.length = 272) {k : Nat} (hk : k < 34) : (sector S k).length = 8 := by simp [sector, h]; omega

theorem settled_nil (stays : Nat → Bool) (S : List Int) : settled stays [] S = S := rfl

theorem sure_at {B : Nat} {w : World} {g cap : Nat} {S : List Int} (h : w.ownsRow B 109 8 (.slice (some ⟨g, 0, none⟩) 34 cap) 34 (ints S)) (hS : S.length = 272) {k : Nat} (hk : k < 34) : w.rangeAt g (0 + k * 8) (ints (sector S k)) := by
  refine owns_range h ?_
  rw [Nat.zero_add, ints_length, sector_length hS hk]
  simp [sector, ints, List.map_take, List.map_drop]

theorem readD_nil {S : List Int} {k : Nat} (hk : k < 34) : readD S [] (k : Nat) = sector S k := by
  have hb : hasB ((k : Nat) : Int) = true := by simp [hasB]; omega
  simp [readD, hb, lastOf, sector]

theorem arrW : arrInt Tryz.prog 109 8 = true := by decide +kernel

theorem sector_upd {S : List Int} {p : Wr} {k : Nat} (hS : S.length = 272) (hp : p.1 < 34 ∧ p.2.length = 8) (hk : k < 34) : sector (upd S p) k = if p.1 = k then p.2 else sector S k := by
  obtain ⟨a, ws⟩ := p
  simp only at hp ⊢
  unfold sector upd
  simp only
  apply List.ext_getElem?
  intro j
  by_cases e : a = k
  · subst e
    simp only [if_true, List.getElem?_take, List.getElem?_drop]
    split
    · rename_i hj
      rw [List.getElem?_append_left (by simp [hS, hp.2]; omega), List.getElem?_append_right (by simp [hS]; omega)]
      congr 1
      simp [hS]; omega
    · rename_i hj
      rw [List.getElem?_eq_none (by omega)]
  · simp only [e, if_false, List.getElem?_take, List.getElem?_drop]
    split
    · rename_i hj
      rcases Nat.lt_or_gt_of_ne e with h | h
      · rw [List.getElem?_append_right (by simp [hS, hp.2]; omega), List.getElem?_drop]
        congr 1
        simp [hS, hp.2]; omega
      · rw [List.append_assoc, List.getElem?_append_left (by simp [hS]; omega), List.getElem?_take, if_pos (by omega)]
    · rfl

end E
end Go.Proofs.YtmplkogkphmmjafGreat

/- Contracts of package store that read: Has, Open, held, find, Gen, Read. -/
namespace Go.Proofs.YtmplkogkphmmjafGreat
set_option maxRecDepth 20000
set_option maxHeartbeats 4000000
namespace E
open Go.Proofs

abbrev z8 : List Int := List.replicate 8 0
def hd (l : List Int) : Int := l.headD 0

/-- There is such a page. -/
def hasP (i : Int) : Bool := decide (0 ≤ i) && decide (i < 14)

/-- What a sector that is led to holds. -/
def heldS (S : List Int) (at_ : Int) : List Int := if at_ = 0 ∨ hasB at_ = false then z8 else sector S at_.toNat

def rootMax (S : List Int) : Nat → List Int
  | 0 => z8
  | j + 1 => if hd (sector S j) > hd (rootMax S j) then sector S j else rootMax S j
/-- The root that leads. -/
def lastRoot (S : List Int) : List Int := rootMax S 2
def genS (S : List Int) : Int := hd (lastRoot S)
def tabS (S : List Int) : List Int := ((lastRoot S).drop 1).take 2
def pgS (S : List Int) : List Int := (heldS S ((tabS S).getD 0 0) ++ heldS S ((tabS S).getD 1 0)).take 14
/-- A state, as it lies in memory. -/
def stS (S : List Int) : List Int := genS S :: (tabS S ++ pgS S)
def readS (S : List Int) (i : Int) : List Int := if hasP i then heldS S ((pgS S).getD i.toNat 0) else z8

theorem heldS_length {S : List Int} (hS : S.length = 272) (a : Int) : (heldS S a).length = 8 := by
  unfold heldS
  split
  · simp [z8]
  · rename_i h
    have h2 : hasB a = true := by
      rcases hb : hasB a with _ | _
      · exact absurd (.inr hb) h
      · rfl
    simp [hasB] at h2
    exact sector_length hS (by omega)
theorem rootMax_length {S : List Int} (hS : S.length = 272) : ∀ j, j ≤ 34 → (rootMax S j).length = 8
  | 0, _ => by simp [rootMax, z8]
  | j + 1, h => by
    unfold rootMax
    split
    · exact sector_length hS (by omega)
    · exact rootMax_length hS j (by omega)
theorem lastRoot_length {S : List Int} (hS : S.length = 272) : (lastRoot S).length = 8 := rootMax_length hS 2 (by decide)
theorem tabS_length {S : List Int} (hS : S.length = 272) : (tabS S).length = 2 := by simp [tabS, lastRoot_length hS]
theorem pgS_length {S : List Int} (hS : S.length = 272) : (pgS S).length = 14 := by simp [pgS, heldS_length hS]
theorem stS_length {S : List Int} (hS : S.length = 272) : (stS S).length = 17 := by simp [stS, tabS_length hS, pgS_length hS]
theorem readS_length {S : List Int} (hS : S.length = 272) (i : Int) : (readS S i).length = 8 := by
  unfold readS
  split
  · exact heldS_length hS _
  · simp [z8]

theorem list2 {l : List Int} (h : l.length = 2) : ∃ a b, l = [a, b] := by
  match l, h with
  | [a, b], _ => exact ⟨a, b, rfl⟩

theorem hasP_ret (i : Int) (w : World) : Ret Tryz.prog 105 [.int .i64 i] w fun v w' => v = .bool (hasP i) ∧ w' = w := by
  refine ret_of 9 Tryz.func105 rfl rfl (by simp) ?_
  refine au ?_
  by_cases h0 : 0 ≤ i
  · refine pl_val (.bool true) rfl rfl (val_int .i64 i 0 _ rfl rfl rfl (by simp [intOp, h0]) w) ?_
    refine au ?_
    refine pl_val (.bool (decide (i < 14))) rfl rfl (val_int .i64 i 14 _ rfl rfl rfl (by simp [intOp]) w) ?_
    refine au ?_
    refine rn_ret Tryz.func105 (.inl ⟨_, rfl, rfl⟩) ⟨?_, rfl⟩
    simp [hasP, h0]
  · refine pl_val (.bool false) rfl rfl (val_int .i64 i 0 _ rfl rfl rfl (by simp [intOp, h0]) w) ?_
    refine au ?_
    refine rn_ret Tryz.func105 (.inl ⟨_, rfl, rfl⟩) ⟨?_, rfl⟩
    simp [hasP, h0]

theorem held_ret {B : Nat} {w : World} {g cap : Nat} {S : List Int} (ho : w.ownsRow B 109 8 (.slice (some ⟨g, 0, none⟩) 34 cap) 34 (ints S)) (hS : S.length = 272) (a : Int) :
    Ret Tryz.prog 107 [.slice (some ⟨g, 0, none⟩) 34 cap, .int .i64 a] w fun v w' => v = .agg (ints (heldS S a)).toArray ∧ Keep [] w w' := by
  refine ret_of 17 Tryz.func107 rfl rfl (by simp) ?_
  refine au ?_
  refine pl_op rfl rfl (opTo_alloc _ rfl zero_words ?_)
  have hlt : g < w.heap.size := (ho.lt g rfl).2
  have hr := Blk.new w (ints (List.replicate 8 0)) 109
  have hk1 : Keep [] w (w.alloc (.cells (ints (List.replicate 8 0)).toArray 109)) := (Keep.refl _ _).alloc _
  have ho1 := hk1.owns ho (by simp)
  generalize (w.alloc (.cells (ints (List.replicate 8 0)).toArray 109)) = w1 at *
  refine auj ?_
  refine rn_seq ?_
  refine rn_seq ?_
  refine rn_with (fun σ w' => w' = w1 ∧ σ = [(0, .slice (some ⟨g, 0, none⟩) 34 cap), (1, .int .i64 a), (4, .pointer (some ⟨w.heap.size, 0, none⟩)), (11, .bool (decide (a = 0 ∨ hasB a = false)))]) ?_ ?_
  · rintro σ w2 ⟨rfl, rfl⟩
    by_cases hout : a = 0 ∨ hasB a = false
    · rw [decide_eq_true hout]
      refine au ?_
      refine pl_val _ rfl rfl (val_build _ rfl rfl built_words0 w2) ?_
      refine pl_op rfl rfl (opTo_store _ rfl rfl rfl rfl (by kernel_rfl) hr (by simp [ints]) (ints_one _) ?_)
      rw [splice_all rfl]
      refine au ?_
      refine rn_ret Tryz.func107 (.inr (.inr (.inl ⟨_, _, _, rfl, rfl, loadVar_agg hT (cs := ints (List.replicate 8 0)) rfl ((hr.set _).range (by simp))⟩))) ⟨?_, hk1.setRow _ _ (.inr (Nat.le_refl _))⟩
      rw [heldS, if_pos hout]
    · rw [decide_eq_false hout]
      refine au ?_
      have hb : hasB a = true := by
        rcases hb : hasB a with _ | _
        · exact absurd (.inr hb) hout
        · rfl
      have hi : 0 ≤ a ∧ a < 34 := by simpa [hasB] using hb
      refine pl_val _ rfl rfl (val_index a.toNat hT rfl rfl rfl rfl (by omega) (by omega) w2) ?_
      have h8 : (sector S a.toNat).length = 8 := sector_length hS (by omega)
      refine pl_val (.agg (ints (sector S a.toNat)).toArray) rfl rfl (val_load _ hT rfl rfl (by rw [ints_length, h8]; rfl) (sure_at ho1 hS (by omega))) ?_
      refine pl_op rfl rfl (opTo_store _ rfl rfl rfl rfl (by rw [ints_length, h8]; decide +kernel) hr (by rw [ints_length, h8]; decide) (ints_one _) ?_)
      rw [splice_all (by rw [ints_length, h8]; rfl)]
      refine au ?_
      refine rn_ret Tryz.func107 (.inr (.inr (.inl ⟨_, _, _, rfl, rfl, loadVar_agg hT (cs := ints (sector S a.toNat)) (by rw [ints_length, h8]; rfl) ((hr.set _).range (by simp))⟩))) ⟨?_, hk1.setRow _ _ (.inr (Nat.le_refl _))⟩
      rw [heldS, if_neg hout]
  intro hjoin
  refine rn_plain ?_
  by_cases h0 : a = 0
  · refine pl_pure hT rfl rfl rfl ?_
    refine pl_val (.bool true) rfl rfl (val_int .i64 a 0 _ rfl rfl rfl (by simp [intOp, h0]) w1) ?_
    repeat (first | refine pl_pure hT rfl rfl rfl ?_ | refine pl_nil ?_ | refine pl_not rfl rfl ?_)
    refine rn_sub ?_ (hjoin _ w1 ⟨rfl, rfl⟩)
    rw [decide_eq_true (.inl h0)]
    exact ⟨rfl, rfl, rfl, rfl, trivial⟩
  · refine pl_pure hT rfl rfl rfl ?_
    refine pl_val (.bool false) rfl rfl (val_int .i64 a 0 _ rfl rfl rfl (by simp [intOp, h0]) w1) ?_
    repeat (first | refine pl_pure hT rfl rfl rfl ?_)
    refine pl_op rfl rfl (opTo_call rfl rfl rfl rfl (by decide +kernel) ((dHas_ret a _).mono ?_))
    rintro v w1 ⟨rfl, rfl⟩
    repeat (first | refine pl_pure hT rfl rfl rfl ?_ | refine pl_nil ?_)
    refine rn_sub ?_ (hjoin _ w1 ⟨rfl, rfl⟩)
    rw [show decide (a = 0 ∨ hasB a = false) = !hasB a by cases hasB a <;> simp [h0]]
    exact ⟨rfl, rfl, rfl, rfl, trivial⟩
end E
end Go.Proofs.YtmplkogkphmmjafGreat

/- The contracts of store.find, Open, Gen, Read. -/
namespace Go.Proofs.YtmplkogkphmmjafGreat
set_option maxRecDepth 20000
set_option maxHeartbeats 4000000
namespace E
open Go.Proofs

theorem zero_state : ((Tryz.prog.info? 178).bind (·.zero)).map (·.cells) = some (ints (List.replicate 17 0)).toArray := by kernel_rfl
theorem built_state (g : Int) : Tryz.prog.built 178 [(0, Value.int .i64 g)] = some (ints (g :: List.replicate 16 0)).toArray := by kernel_rfl

def pgAt (S : List Int) (t0 t1 : Int) : Nat → List Int
  | 0 => List.replicate 14 0
  | 1 => heldS S t0 ++ List.replicate 6 0
  | _ => (heldS S t0 ++ heldS S t1).take 14

theorem pgAt_length {S : List Int} (hS : S.length = 272) (t0 t1 : Int) (j : Nat) : (pgAt S t0 t1 j).length = 14 := by
  unfold pgAt
  split <;> simp [heldS_length hS]

theorem arrT : arrInt Tryz.prog 175 2 = true := by decide +kernel
theorem arrP : arrInt Tryz.prog 176 14 = true := by decide +kernel

theorem rangeAt_take {w : World} {b i : Nat} {cs ds : List Value} (h : w.rangeAt b i cs) (hd : ds = cs.take ds.length) : w.rangeAt b i ds := fun j u hu => h j u (by
  rw [hd, List.getElem?_take] at hu
  split at hu
  · exact hu
  · cases hu)

theorem find_ret {B : Nat} {w : World} {g cap : Nat} {S : List Int} (ho : w.ownsRow B 109 8 (.slice (some ⟨g, 0, none⟩) 34 cap) 34 (ints S)) (hS : S.length = 272) (hcap : 2 ≤ cap) :
    Ret Tryz.prog 108 [.slice (some ⟨g, 0, none⟩) 34 cap] w fun v w' => v = .agg (ints (stS S)).toArray ∧ Keep [] w w' := by
  refine ret_of 48 Tryz.func108 rfl rfl (by simp) ?_
  refine au ?_
  refine pl_op rfl rfl (opTo_alloc _ rfl zero_state ?_)
  refine au ?_
  refine pl_op rfl rfl (opTo_alloc _ rfl zero_words ?_)
  rw [World.size_alloc]
  have hk1 : Keep [] w ((w.alloc (.cells (ints (List.replicate 17 0)).toArray 178)).alloc (.cells (ints (List.replicate 8 0)).toArray 109)) := ((Keep.refl _ _).alloc _).alloc _
  have hres : Blk ((w.alloc (.cells (ints (List.replicate 17 0)).toArray 178)).alloc (.cells (ints (List.replicate 8 0)).toArray 109)) w.heap.size (ints (List.replicate 17 0)) 178 := (Blk.new _ _ _).alloc _
  have hlast : Blk ((w.alloc (.cells (ints (List.replicate 17 0)).toArray 178)).alloc (.cells (ints (List.replicate 8 0)).toArray 109)) (w.heap.size + 1) (ints (List.replicate 8 0)) 109 := by
    have := Blk.new (w.alloc (.cells (ints (List.replicate 17 0)).toArray 178)) (ints (List.replicate 8 0)) 109
    rwa [World.size_alloc] at this
  generalize ((w.alloc (.cells (ints (List.replicate 17 0)).toArray 178)).alloc (.cells (ints (List.replicate 8 0)).toArray 109)) = w1 at *
  have hg : g < w.heap.size := (ho.lt g rfl).2
  refine au ?_
  refine pl_val _ rfl rfl (val_sliceTo 2 hT rfl rfl rfl rfl rfl hcap w1) ?_
  refine au ?_
  refine rn_ind (fun m σ w' => ∃ j, m = 2 - j ∧ j ≤ 2 ∧ σ = [(0, .slice (some ⟨g, 0, none⟩) 34 cap), (2, .pointer (some ⟨w.heap.size, 0, none⟩)), (3, .pointer (some ⟨w.heap.size + 1, 0, none⟩)), (11, .slice (some ⟨g, 0, none⟩) 2 cap), (12, .int .i64 2), (13, .int .i64 (j : Nat))] ∧
      Keep [] w w' ∧ Blk w' w.heap.size (ints (List.replicate 17 0)) 178 ∧ Blk w' (w.heap.size + 1) (ints (rootMax S j)) 109)
    (2 - 0) _ ?_ ⟨0, rfl, by decide, rfl, hk1, hres, hlast⟩ ?_
  · exact ⟨rfl, rfl, rfl, rfl, rfl, rfl, trivial⟩
  clear hk1 hres hlast
  rintro m σ w2 ih ⟨j, hm, hj, rfl, hk2, hres, hlast⟩
  refine au ?_
  rcases Nat.lt_or_ge j 2 with hlt | hge
  · refine pl_val (.bool true) rfl rfl (val_int .i64 _ _ _ rfl rfl rfl (by simp [intOp]; omega) w2) ?_
    refine au ?_
    have h8 : (sector S j).length = 8 := sector_length hS (by omega)
    have hm8 : (rootMax S j).length = 8 := rootMax_length hS j (by omega)
    refine pl_val _ rfl rfl (val_index j hT rfl rfl rfl rfl rfl hlt w2) ?_
    refine pl_val (.agg (ints (sector S j)).toArray) rfl rfl (val_load _ hT rfl rfl (by rw [ints_length, h8]; rfl) (sure_at (hk2.owns ho (by simp)) hS (by omega))) ?_
    refine pl_op rfl rfl (opTo_alloc _ rfl zero_words ?_)
    have hk3 : Keep [] w (w2.alloc (.cells (ints (List.replicate 8 0)).toArray 109)) := hk2.alloc _
    have hx3 := Blk.new w2 (ints (List.replicate 8 0)) 109
    have hres3 := hres.alloc (.cells (ints (List.replicate 8 0)).toArray 109)
    have hlast3 := hlast.alloc (.cells (ints (List.replicate 8 0)).toArray 109)
    have hsz := hk2.size
    generalize (w2.alloc (.cells (ints (List.replicate 8 0)).toArray 109)) = w3 at *
    refine au ?_
    refine pl_op rfl rfl (opTo_store _ rfl rfl rfl rfl (by rw [ints_length, h8]; decide +kernel) hx3 (by rw [ints_length, h8]; decide) (ints_one _) ?_)
    rw [splice_all (by rw [ints_length, h8]; rfl)]
    have hk4 := hk3.setRow w2.heap.size (ints (sector S j)).toArray (.inr hsz)
    have hx4 := hx3.set (ints (sector S j))
    have hres4 := hres3.other (ints (sector S j)).toArray (c := w2.heap.size) (by have := hres.lt; omega)
    have hlast4 := hlast3.other (ints (sector S j)).toArray (c := w2.heap.size) (by have := hlast.lt; omega)
    have hnx : w.heap.size + 1 ≠ w2.heap.size := by have := hlast.lt; omega
    generalize (w3.setRow w2.heap.size (ints (sector S j)).toArray) = w4 at *
    refine au ?_
    refine pl_val _ rfl rfl (val_indexArr 0 hT rfl rfl rfl rfl rfl (by decide) w4) ?_
    refine pl_val (.int .i64 (hd (sector S j))) rfl rfl (val_load1 hT rfl rfl rfl (hx4.cell (by obtain ⟨a, b, c, d, e, f, g, i, h⟩ := list8 h8; rw [h]; rfl))) ?_
    refine pl_val _ rfl rfl (val_indexArr 0 hT rfl rfl rfl rfl rfl (by decide) w4) ?_
    refine pl_val (.int .i64 (hd (rootMax S j))) rfl rfl (val_load1 hT rfl rfl rfl (hlast4.cell (by obtain ⟨a, b, c, d, e, f, g, i, h⟩ := list8 hm8; rw [h]; rfl))) ?_
    by_cases hgt : hd (sector S j) > hd (rootMax S j)
    · refine pl_val (.bool true) rfl rfl (val_int .i64 _ _ _ rfl rfl rfl (by simp only [intOp, hgt, decide_true]) w4) ?_
      refine au ?_
      refine pl_val (.agg (ints (sector S j)).toArray) rfl rfl (val_load _ hT rfl rfl (by rw [ints_length, h8]; rfl) (hx4.range (by simp))) ?_
      refine pl_op rfl rfl (opTo_store _ rfl rfl rfl rfl (by rw [ints_length, h8]; decide +kernel) hlast4 (by rw [ints_length, ints_length, h8, hm8]; decide) (ints_one _) ?_)
      rw [splice_all (by rw [ints_length, h8, ints_length, hm8])]
      have hk5 := hk4.setRow (w.heap.size + 1) (ints (sector S j)).toArray (.inr (by omega))
      have hlast5 := hlast4.set (ints (sector S j))
      have hres5 := hres4.other (ints (sector S j)).toArray (c := w.heap.size + 1) (by omega)
      generalize (w4.setRow (w.heap.size + 1) (ints (sector S j)).toArray) = w5 at *
      refine au ?_
      refine pl_val (.int .i64 ((j + 1 : Nat) : Int)) rfl rfl (val_int .i64 j 1 _ rfl rfl rfl (by simp only [intOp]; rw [wrap_i64 (by omega) (by omega)]; rfl) w5) ?_
      refine au ?_
      refine rn_sub ?_ (ih (2 - (j + 1)) _ w5 (by omega) ⟨j + 1, rfl, hlt, rfl, hk5, hres5, by rw [rootMax, if_pos hgt]; exact hlast5⟩)
      exact ⟨rfl, rfl, rfl, rfl, rfl, rfl, trivial⟩
    · refine pl_val (.bool false) rfl rfl (val_int .i64 _ _ _ rfl rfl rfl (by simp only [intOp, hgt, decide_false]) w4) ?_
      refine au ?_
      refine pl_val (.int .i64 ((j + 1 : Nat) : Int)) rfl rfl (val_int .i64 j 1 _ rfl rfl rfl (by simp only [intOp]; rw [wrap_i64 (by omega) (by omega)]; rfl) w4) ?_
      refine au ?_
      refine rn_sub ?_ (ih (2 - (j + 1)) _ w4 (by omega) ⟨j + 1, rfl, hlt, rfl, hk4, hres4, by rw [rootMax, if_neg hgt]; exact hlast4⟩)
      exact ⟨rfl, rfl, rfl, rfl, rfl, rfl, trivial⟩
  have hjj : j = 2 := by omega
  subst hjj
  clear ih
  refine pl_val (.bool false) rfl rfl (val_int .i64 _ _ _ rfl rfl rfl (by simp [intOp]) w2) ?_
  refine au ?_
  have hl8 := lastRoot_length hS
  replace hlast : Blk w2 (w.heap.size + 1) (ints (lastRoot S)) 109 := hlast
  have hst : stS S = genS S :: (tabS S ++ pgS S) := rfl
  have hpg : pgS S = pgAt S ((tabS S).getD 0 0) ((tabS S).getD 1 0) 2 := rfl
  have hgen : genS S = hd (lastRoot S) := rfl
  have htab : tabS S = ((lastRoot S).drop 1).take 2 := rfl
  rw [hst, hpg, hgen, htab]
  generalize lastRoot S = R at *
  obtain ⟨a0, a1, a2, a3, a4, a5, a6, a7, rfl⟩ := list8 hl8
  clear hst hpg hgen htab hl8
  have hsz := hk2.size
  refine pl_val _ rfl rfl (val_indexArr 0 hT rfl rfl rfl rfl rfl (by decide) w2) ?_
  refine pl_val (.int .i64 a0) rfl rfl (val_load1 hT rfl rfl rfl (hlast.cell rfl)) ?_
  refine pl_val _ rfl rfl (val_build _ rfl rfl (built_state a0) w2) ?_
  refine pl_op rfl rfl (opTo_alloc _ rfl zero_state ?_)
  have hk3 : Keep [] w (w2.alloc (.cells (ints (List.replicate 17 0)).toArray 178)) := hk2.alloc _
  have hx3 := Blk.new w2 (ints (List.replicate 17 0)) 178
  have hres3 := hres.alloc (.cells (ints (List.replicate 17 0)).toArray 178)
  have hlast3 := hlast.alloc (.cells (ints (List.replicate 17 0)).toArray 178)
  have hx1 : w.heap.size ≠ w2.heap.size := by have := hres.lt; omega
  have hx2 : w.heap.size + 1 ≠ w2.heap.size := by have := hlast.lt; omega
  generalize (w2.alloc (.cells (ints (List.replicate 17 0)).toArray 178)) = w3 at *
  refine au ?_
  refine pl_op rfl rfl (opTo_store _ rfl rfl rfl rfl (by kernel_rfl) hx3 (by simp [ints]) (ints_one _) ?_)
  rw [splice_all (show (ints (a0 :: List.replicate 16 0)).length = (ints (List.replicate 17 0)).length from rfl)]
  have hk4 := hk3.setRow w2.heap.size (ints (a0 :: List.replicate 16 0)).toArray (.inr hsz)
  have hx4 := hx3.set (ints (a0 :: List.replicate 16 0))
  have hres4 := hres3.other (ints (a0 :: List.replicate 16 0)).toArray hx1
  have hlast4 := hlast3.other (ints (a0 :: List.replicate 16 0)).toArray hx2
  generalize (w3.setRow w2.heap.size (ints (a0 :: List.replicate 16 0)).toArray) = w4 at *
  refine au ?_
  refine rn_draw (fun _ => True) [] hMix ?_
  refine tk 0 ?_
  refine dr_any 1 _ rfl (by decide +kernel) rfl rfl (fun w' => val_sliceArr hT rfl rfl rfl w') ?_
  refine dr_any 2 _ rfl (by decide +kernel) rfl rfl (fun w' => val_sliceArrFrom 1 hT rfl rfl rfl rfl rfl (by decide) w') ?_
  refine dr_op 3 rfl (by decide +kernel) rfl rfl (opTo_copy (ints [a1, a2]) rfl rfl rfl (by decide +kernel) hx4.drew rfl (hlast4.drew.range rfl) (by simp [ints]) (ints_one _) fun r => ⟨fun _ => trivial, ?_⟩)
  refine dr_done (by decide +kernel) ?_
  have e1 : splice (ints (a0 :: List.replicate 16 0)) (0 + 1) (ints [a1, a2]) = ints (a0 :: a1 :: a2 :: pgAt S a1 a2 0) := rfl
  rw [e1]
  have hk5 := (hk4.drew).setRow w2.heap.size (ints (a0 :: a1 :: a2 :: pgAt S a1 a2 0)).toArray (.inr hsz)
  have hx5 := hx4.drew.set (ints (a0 :: a1 :: a2 :: pgAt S a1 a2 0))
  have hres5 := hres4.drew.other (ints (a0 :: a1 :: a2 :: pgAt S a1 a2 0)).toArray hx1
  clear hx4 hres4 hlast4 hk4 hk3 hx3 hres3 hlast3 hres hlast
  generalize (w4.drew.setRow w2.heap.size (ints (a0 :: a1 :: a2 :: pgAt S a1 a2 0)).toArray) = w5 at *
  generalize hx : w2.heap.size = x at *
  clear hk2 hx
  refine au ?_
  refine pl_val (.agg (ints [a1, a2]).toArray) rfl rfl (val_load _ hT rfl rfl rfl (hx5.range rfl)) ?_
  refine au ?_
  refine rn_ind (fun m σ w' => ∃ j, m = 2 - j ∧ j ≤ 2 ∧ σ = [(0, .slice (some ⟨g, 0, none⟩) 34 cap), (2, .pointer (some ⟨w.heap.size, 0, none⟩)), (6, .pointer (some ⟨x, 0, none⟩)), (32, .agg (ints [a1, a2]).toArray), (33, .int .i64 (j : Nat))] ∧
      Keep [] w w' ∧ Blk w' w.heap.size (ints (List.replicate 17 0)) 178 ∧ Blk w' x (ints (a0 :: a1 :: a2 :: pgAt S a1 a2 j)) 178)
    (2 - 0) _ ?_ ⟨0, rfl, by decide, rfl, hk5, hres5, hx5⟩ ?_
  · exact ⟨rfl, rfl, rfl, rfl, rfl, trivial⟩
  clear hk5 hres5 hx5
  rintro m σ w6 ih ⟨j, hm, hj, rfl, hk6, hres, hx6⟩
  refine au ?_
  rcases Nat.lt_or_ge j 2 with hlt | hge
  · refine pl_val (.bool true) rfl rfl (val_int .i64 _ _ _ rfl rfl rfl (by simp [intOp]; omega) w6) ?_
    refine au ?_
    obtain ⟨t, ht⟩ : ∃ t, [a1, a2][j]? = some t := ⟨_, List.getElem?_eq_getElem (by simpa using hlt)⟩
    refine pl_val (.int .i64 t) rfl rfl (val_at [a1, a2] j arrT rfl rfl rfl rfl hlt ht w6) ?_
    refine au ?_
    refine pl_op rfl rfl (opTo_call rfl rfl rfl rfl (by decide +kernel) ((held_ret (hk6.owns ho (by simp)) hS t).mono ?_))
    rintro v w7 ⟨rfl, hk7⟩
    have h8 := heldS_length hS t
    refine pl_op rfl rfl (opTo_alloc _ rfl zero_words ?_)
    have hkw7 := hk6.tr0 hk7
    have hk8 : Keep [] w (w7.alloc (.cells (ints (List.replicate 8 0)).toArray 109)) := hkw7.alloc _
    have hy8 := Blk.new w7 (ints (List.replicate 8 0)) 109
    have hres7 := hk7.blk hres (by simp)
    have hx7 := hk7.blk hx6 (by simp)
    have hres8 := hres7.alloc (.cells (ints (List.replicate 8 0)).toArray 109)
    have hx8 := hx7.alloc (.cells (ints (List.replicate 8 0)).toArray 109)
    have hn1 : w.heap.size ≠ w7.heap.size := by have := hres7.lt; omega
    have hn2 : x ≠ w7.heap.size := by have := hx7.lt; omega
    have hn3 := hkw7.size
    generalize (w7.alloc (.cells (ints (List.replicate 8 0)).toArray 109)) = w8 at *
    refine au ?_
    refine pl_op rfl rfl (opTo_store _ rfl rfl rfl rfl (by rw [ints_length, h8]; decide +kernel) hy8 (by rw [ints_length, h8]; decide) (ints_one _) ?_)
    rw [splice_all (by rw [ints_length, h8]; rfl)]
    have hk9 := hk8.setRow w7.heap.size (ints (heldS S t)).toArray (.inr hn3)
    have hy9 := hy8.set (ints (heldS S t))
    have hres9 := hres8.other (ints (heldS S t)).toArray hn1
    have hx9 := hx8.other (ints (heldS S t)).toArray hn2
    generalize (w8.setRow w7.heap.size (ints (heldS S t)).toArray) = w9 at *
    refine au ?_
    refine rn_draw (fun _ => True) [] hMix ?_
    refine tk 0 ?_
    refine tk 1 ?_
    refine dr_any 2 (.int .i64 ((j * 8 : Nat) : Int)) rfl (by decide +kernel) rfl rfl (fun w' => val_int .i64 j 8 _ rfl rfl rfl (by simp only [intOp]; rw [wrap_i64 (by omega) (by omega)]; simp) w') ?_
    refine dr_any 3 _ rfl (by decide +kernel) rfl rfl (fun w' => val_sliceArrFrom (j * 8) hT rfl rfl rfl rfl rfl (by omega) w') ?_
    refine dr_any 4 _ rfl (by decide +kernel) rfl rfl (fun w' => val_sliceArr hT rfl rfl rfl w') ?_
    have hcl : ((heldS S t).take (Nat.min 8 (14 - j * 8))).length = Nat.min 8 (14 - j * 8) := by rw [List.length_take, h8]; exact Nat.min_eq_left (Nat.min_le_left _ _)
    have hle : Nat.min 8 (14 - j * 8) ≤ 14 - j * 8 := Nat.min_le_right _ _
    refine dr_op 5 rfl (by decide +kernel) rfl rfl (opTo_copy (ints ((heldS S t).take (Nat.min 8 (14 - j * 8)))) rfl rfl rfl (by decide +kernel) hx9.drew (by rw [ints_length, hcl]) (rangeAt_take (hy9.drew.range (cs := ints (heldS S t)) (by simp)) (by rw [ints_length, hcl]; simp [ints, List.map_take])) (by rw [ints_length, hcl, ints_length]; simp [pgAt_length hS]; omega) (ints_one _) fun r => ⟨fun _ => trivial, ?_⟩)
    refine dr_done (by decide +kernel) ?_
    have e2 : splice (ints (a0 :: a1 :: a2 :: pgAt S a1 a2 j)) (0 + 3 + j * 8 * 1) (ints ((heldS S t).take (Nat.min 8 (14 - j * 8)))) = ints (a0 :: a1 :: a2 :: pgAt S a1 a2 (j + 1)) := by
      have hj2 : j = 0 ∨ j = 1 := by omega
      rcases hj2 with rfl | rfl
      · simp at ht
        subst ht
        simp only [pgAt]
        obtain ⟨b0, b1, b2, b3, b4, b5, b6, b7, hb⟩ := list8 h8
        rw [hb]
        rfl
      · simp at ht
        subst ht
        simp only [pgAt]
        obtain ⟨b0, b1, b2, b3, b4, b5, b6, b7, hb⟩ := list8 h8
        obtain ⟨c0, c1, c2, c3, c4, c5, c6, c7, hc⟩ := list8 (heldS_length hS a1)
        rw [hb, hc]
        rfl
    rw [e2]
    have hk10 := (hk9.drew).setRow x (ints (a0 :: a1 :: a2 :: pgAt S a1 a2 (j + 1))).toArray (.inr hsz)
    have hx10 := hx9.drew.set (ints (a0 :: a1 :: a2 :: pgAt S a1 a2 (j + 1)))
    have hres10 := hres9.drew.other (ints (a0 :: a1 :: a2 :: pgAt S a1 a2 (j + 1))).toArray hx1
    generalize (w9.drew.setRow x (ints (a0 :: a1 :: a2 :: pgAt S a1 a2 (j + 1))).toArray) = w10 at *
    refine au ?_
    refine pl_val (.int .i64 ((j + 1 : Nat) : Int)) rfl rfl (val_int .i64 j 1 _ rfl rfl rfl (by simp only [intOp]; rw [wrap_i64 (by omega) (by omega)]; rfl) w10) ?_
    refine au ?_
    refine rn_sub ?_ (ih (2 - (j + 1)) _ w10 (by omega) ⟨j + 1, rfl, hlt, rfl, hk10, hres10, hx10⟩)
    exact ⟨rfl, rfl, rfl, rfl, rfl, trivial⟩
  have hjj : j = 2 := by omega
  subst hjj
  refine pl_val (.bool false) rfl rfl (val_int .i64 _ _ _ rfl rfl rfl (by simp [intOp]) w6) ?_
  refine au ?_
  have h17 : (a0 :: a1 :: a2 :: pgAt S a1 a2 2).length = 17 := by simp [pgAt_length hS]
  refine pl_val (.agg (ints (a0 :: a1 :: a2 :: pgAt S a1 a2 2)).toArray) rfl rfl (val_load _ hT rfl rfl (by rw [ints_length, h17]; rfl) (hx6.range (by simp))) ?_
  refine pl_op rfl rfl (opTo_store (ints (a0 :: a1 :: a2 :: pgAt S a1 a2 2)) rfl rfl rfl rfl (by rw [ints_length, h17]; decide +kernel) hres (by rw [ints_length, h17]; decide) (ints_one _) ?_)
  rw [splice_all (by rw [ints_length, h17]; rfl)]
  refine au ?_
  refine rn_ret Tryz.func108 (.inr (.inr (.inl ⟨_, _, _, rfl, rfl, loadVar_agg hT (cs := ints (a0 :: a1 :: a2 :: pgAt S a1 a2 2)) (by rw [ints_length, h17]; rfl) ((hres.set _).range (by simp))⟩))) ⟨?_, hk6.setRow _ _ (.inr (Nat.le_refl _))⟩
  rfl
end E
end Go.Proofs.YtmplkogkphmmjafGreat

/- The contracts of store's Open, Gen, Read, Check. -/
namespace Go.Proofs.YtmplkogkphmmjafGreat
set_option maxRecDepth 20000
set_option maxHeartbeats 4000000
namespace E
open Go.Proofs

/-- A store in memory, on the disk at d. -/
def StoreV (w : World) (s d : Nat) : Prop := Blk w s [.pointer (some ⟨d, 0, none⟩)] 152

theorem built_store (d : Nat) : Tryz.prog.built 152 [(0, Value.pointer (some ⟨d, 0, none⟩))] = some [Value.pointer (some ⟨d, 0, none⟩)].toArray := by kernel_rfl

theorem open_ret (d : Nat) (w : World) : Ret Tryz.prog 51 [.pointer (some ⟨d, 0, none⟩)] w fun v w' => v = .pointer (some ⟨w.heap.size, 0, none⟩) ∧ StoreV w' w.heap.size d ∧ Keep [] w w' := by
  refine ret_of 6 Tryz.func51 rfl rfl (by simp) ?_
  refine au ?_
  refine pl_val _ rfl rfl (val_build _ rfl rfl (built_store d) w) ?_
  refine pl_op rfl rfl (opTo_box _ rfl rfl rfl ?_)
  refine au ?_
  exact rn_ret Tryz.func51 (.inl ⟨_, rfl, rfl⟩) ⟨rfl, Blk.new w _ _, (Keep.refl _ _).alloc _⟩

theorem owns_cap {w : World} {B e size n g cap : Nat} {xs : List Value} (h : w.ownsRow B e size (.slice (some ⟨g, 0, none⟩) n cap) n xs) : n ≤ cap := by
  rcases h.2 with ⟨h1, h2⟩ | ⟨g', cap', cur, h1, _, _, hc, _⟩
  · cases h1
  · injection h1 with e1 e2 e3
    subst e3
    first | exact hc | omega

theorem stS_pages {S : List Int} (hS : S.length = 272) : ((ints (stS S)).drop 3).take 14 = ints (pgS S) := by
  obtain ⟨a, b, h⟩ := list2 (tabS_length hS)
  have hp := pgS_length hS
  simp only [stS, h]
  simp [ints, hp, List.take_of_length_le]

theorem sread_ret {B : Nat} {w : World} {s d : Nat} {S : List Int} {L : List Wr} {wv : Value} (hs : StoreV w s d) (h : DiskV B w d S L wv) (i : Int) :
    Ret Tryz.prog 79 [.pointer (some ⟨s, 0, none⟩), .int .i64 i] w fun v w' => v = .agg (ints (readS S i)).toArray ∧ Keep [] w w' := by
  refine ret_of 22 Tryz.func79 rfl rfl (by simp) ?_
  refine au ?_
  refine pl_op rfl rfl (opTo_alloc _ rfl zero_words ?_)
  have hr := Blk.new w (ints (List.replicate 8 0)) 109
  have hk1 : Keep [] w (w.alloc (.cells (ints (List.replicate 8 0)).toArray 109)) := (Keep.refl _ _).alloc _
  have h1 := h.keep hk1 (by simp)
  have hs1 := hk1.blk hs (by simp)
  generalize (w.alloc (.cells (ints (List.replicate 8 0)).toArray 109)) = w1 at *
  refine au ?_
  refine pl_op rfl rfl (opTo_call rfl rfl rfl rfl (by decide +kernel) ((hasP_ret i _).mono ?_))
  rintro v w1 ⟨rfl, rfl⟩
  cases hb : hasP i with
  | false =>
    refine au ?_
    refine pl_val _ rfl rfl (val_build _ rfl rfl built_words0 w1) ?_
    refine pl_op rfl rfl (opTo_store _ rfl rfl rfl rfl (by kernel_rfl) hr (by simp [ints]) (ints_one _) ?_)
    rw [splice_all rfl]
    refine au ?_
    refine rn_ret Tryz.func79 (.inr (.inr (.inl ⟨_, _, _, rfl, rfl, loadVar_agg hT (cs := ints (List.replicate 8 0)) rfl ((hr.set _).range (by simp))⟩))) ⟨?_, hk1.setRow _ _ (.inr (Nat.le_refl _))⟩
    simp [readS, hb]
    rfl
  | true =>
    have hi : 0 ≤ i ∧ i < 14 := by simpa [hasP] using hb
    refine au ?_
    refine pl_val (.pointer (some ⟨d, 0, none⟩)) rfl rfl (val_load1 hT rfl rfl rfl (hs1.cell rfl)) ?_
    refine pl_op rfl rfl (opTo_call rfl rfl rfl rfl (by decide +kernel) ((sure_ret h1).mono ?_))
    rintro v w2 ⟨g, cap, rfl, ho, hk2⟩
    refine au ?_
    refine pl_op rfl rfl (opTo_call rfl rfl rfl rfl (by decide +kernel) ((find_ret ho h.len (by have := owns_cap ho; omega)).mono ?_))
    rintro v w3 ⟨rfl, hk3⟩
    refine pl_val (.agg (ints (pgS S)).toArray) rfl rfl (val_fieldAgg (m := 14) 3 _ _ rfl rfl (by decide +kernel) (stS_pages h.len) w3) ?_
    refine au ?_
    have hp14 := pgS_length h.len
    refine pl_val (.int .i64 ((pgS S).getD i.toNat 0)) rfl rfl (val_at (pgS S) i.toNat arrP rfl rfl rfl (by omega) (by omega) (by rw [List.getD_eq_getElem?_getD, List.getElem?_eq_getElem (by omega)]; rfl) w3) ?_
    refine pl_op rfl rfl (opTo_call rfl rfl rfl rfl (by decide +kernel) ((held_ret (hk3.owns ho (by simp)) h.len _).mono ?_))
    rintro v w4 ⟨rfl, hk4⟩
    have hk14 := (hk2.tr0 hk3).tr0 hk4
    have hr4 := hk14.blk hr (by simp)
    have hlen : (ints (heldS S ((pgS S).getD i.toNat 0))).length = 8 := by rw [ints_length, heldS_length h.len]
    refine pl_op rfl rfl (opTo_store _ rfl rfl rfl rfl (by rw [hlen]; decide +kernel) hr4 (by rw [hlen]; decide) (ints_one _) ?_)
    rw [splice_all (by rw [hlen]; rfl)]
    refine au ?_
    refine rn_ret Tryz.func79 (.inr (.inr (.inl ⟨_, _, _, rfl, rfl, loadVar_agg hT (cs := ints (heldS S ((pgS S).getD i.toNat 0))) (by rw [hlen]; rfl) ((hr4.set _).range (by simp))⟩))) ⟨?_, (hk1.tr0 hk14).setRow _ _ (.inr (Nat.le_refl _))⟩
    simp [readS, hb]
end E
end Go.Proofs.YtmplkogkphmmjafGreat

/- Pages that are handed over, and the contract of store.Check. -/
namespace Go.Proofs.YtmplkogkphmmjafGreat
set_option maxRecDepth 20000
set_option maxHeartbeats 4000000
namespace E
open Go.Proofs

abbrev Pg := Int × List Int
def pcell (p : Pg) : List Value := .int .i64 p.1 :: ints p.2
def pcells (l : List Pg) : List Value := l.flatMap pcell
theorem pcell_length {p : Pg} (h : p.2.length = 8) : (pcell p).length = 9 := by simp [pcell, ints_length, h]
theorem pcell_one (p : Pg) : ∀ u ∈ pcell p, u.oneCell' = true := by
  intro u hu
  rcases List.mem_cons.1 hu with rfl | hu
  · rfl
  · exact ints_one p.2 u hu

/-- A slice of pages, in blocks below B. -/
structure Pgs (B : Nat) (w : World) (v : Value) (ps : List Pg) : Prop where
  ex : ∃ a cap, v = .slice a ps.length cap ∧ (ps ≠ [] → ∃ b q, a = some ⟨b, q, none⟩ ∧ b < B ∧ w.rangeAt b q (pcells ps))
  wf : ∀ p ∈ ps, p.2.length = 8
  le : B ≤ w.heap.size

theorem Pgs.keep {B : Nat} {w w' : World} {v : Value} {ps : List Pg} {fp : List Nat} (h : Pgs B w v ps) (hk : Keep fp w w') (hn : ∀ k ∈ fp, B ≤ k) : Pgs B w' v ps := by
  obtain ⟨a, cap, hv, hm⟩ := h.ex
  refine ⟨⟨a, cap, hv, fun hne => ?_⟩, h.wf, Nat.le_trans h.le hk.size⟩
  obtain ⟨b, q, ha, hlt, hr⟩ := hm hne
  exact ⟨b, q, ha, hlt, hk.range hr (Nat.lt_of_lt_of_le hlt h.le) fun hm => by have := hn b hm; omega⟩
theorem Pgs.at {B : Nat} {w : World} {v : Value} {ps : List Pg} (h : Pgs B w v ps) {j : Nat} {p : Pg} (hp : ps[j]? = some p) :
    ∃ b q cap, v = .slice (some ⟨b, q, none⟩) ps.length cap ∧ b < B ∧ w.rangeAt b (q + j * 9) (pcell p) := by
  obtain ⟨a, cap, hv, hm⟩ := h.ex
  obtain ⟨b, q, ha, hlt, hr⟩ := hm (by intro e; simp [e] at hp)
  refine ⟨b, q, cap, by rw [hv, ha], hlt, range_sub hr (j * 9) ?_⟩
  rw [pcell_length (h.wf p (List.mem_of_getElem? hp))]
  exact flat_at (fun q hq => pcell_length (h.wf q hq)) hp

/-- The code of pages, behind these numbers. -/
def chkFrom (done : List Int) : List Pg → Int
  | [] => 0
  | p :: r => if hasP p.1 = false then 1 else if done.contains p.1 then 9 else chkFrom (done ++ [p.1]) r
def chk (ps : List Pg) : Int := chkFrom [] ps

def bools (l : List Bool) : List Value := l.map fun b => .bool b
theorem bools_length (l : List Bool) : (bools l).length = l.length := by simp [bools]
theorem bools_one (l : List Bool) : ∀ u ∈ bools l, u.oneCell' = true := by
  intro u hu
  simp only [bools, List.mem_map] at hu
  obtain ⟨x, _, rfl⟩ := hu
  rfl
theorem splice_bools (l : List Bool) (i : Nat) (b : Bool) (h : i < l.length) : splice (bools l) i [.bool b] = bools (l.set i b) := by
  rw [List.set_eq_take_append_cons_drop, if_pos h]
  simp [splice, bools, List.map_take, List.map_drop]

/-- Which of the pages are ahead. -/
def ahead (done : List Int) : List Bool := (List.range 14).map fun i => done.contains ((i : Nat) : Int)
theorem ahead_length (done : List Int) : (ahead done).length = 14 := by simp [ahead]
theorem ahead_set (done : List Int) {i : Int} (h : hasP i = true) : (ahead done).set i.toNat true = ahead (done ++ [i]) := by
  simp [hasP] at h
  apply List.ext_getElem
  · simp [ahead]
  · intro k h1 h2
    simp only [List.length_set, ahead_length] at h1
    simp only [List.getElem_set, ahead, List.getElem_map, List.getElem_range]
    by_cases e : i.toNat = k
    · have : i = (k : Int) := by omega
      simp [this]
    · have : ¬ ((k : Int) = i) := by omega
      simp [e, this]
theorem ahead_at (done : List Int) {i : Int} (h : hasP i = true) : (ahead done)[i.toNat]? = some (done.contains i) := by
  simp [hasP] at h
  rw [List.getElem?_eq_getElem (by rw [ahead_length]; omega)]
  simp only [ahead, List.getElem_map, List.getElem_range]
  rw [show ((i.toNat : Nat) : Int) = i by omega]

theorem zero_ahead : ((Tryz.prog.info? 147).bind (·.zero)).map (·.cells) = some (bools (List.replicate 14 false)).toArray := by kernel_rfl
theorem zero_page : ((Tryz.prog.info? 204).bind (·.zero)).map (·.cells) = some (pcell (0, List.replicate 8 0)).toArray := by kernel_rfl
theorem ahead_nil : ahead [] = List.replicate 14 false := by decide

theorem take_succ_map {ps : List Pg} {j : Nat} {p : Pg} (hp : ps[j]? = some p) : (ps.take (j + 1)).map (·.1) = (ps.take j).map (·.1) ++ [p.1] := by
  have hlt : j < ps.length := (List.getElem?_eq_some_iff.1 hp).1
  have hj : ps[j] = p := (List.getElem?_eq_some_iff.1 hp).2
  rw [List.take_succ_eq_append_getElem hlt, hj]
  simp
theorem drop_at {α : Type} {ps : List α} {j : Nat} {p : α} (hp : ps[j]? = some p) : ps.drop j = p :: ps.drop (j + 1) := by
  have hlt : j < ps.length := (List.getElem?_eq_some_iff.1 hp).1
  have hj : ps[j] = p := (List.getElem?_eq_some_iff.1 hp).2
  rw [List.drop_eq_getElem_cons hlt, hj]

theorem sCheck_ret {B : Nat} {w : World} {v : Value} {ps : List Pg} (h : Pgs B w v ps) (hlen : ps.length < 1000000) :
    Ret Tryz.prog 140 [v] w fun r w' => r = .int .i64 (chk ps) ∧ Keep [] w w' := by
  refine ret_of 24 Tryz.func140 rfl rfl (by simp) ?_
  refine au ?_
  refine pl_op rfl rfl (opTo_alloc _ rfl zero_ahead ?_)
  have hk1 : Keep [] w (w.alloc (.cells (bools (List.replicate 14 false)).toArray 147)) := (Keep.refl _ _).alloc _
  have ha1 := Blk.new w (bools (List.replicate 14 false)) 147
  rw [← ahead_nil] at ha1 hk1 ⊢
  generalize (w.alloc (.cells (bools (ahead [])).toArray 147)) = w1 at *
  refine au ?_
  obtain ⟨va, vcap, hv, _⟩ := h.ex
  refine pl_val (.int .i64 ps.length) rfl rfl (val_pure hT (by rw [hv]; rfl) w1) ?_
  refine au ?_
  refine rn_ind (fun m σ w' => ∃ j, m = ps.length - j ∧ j ≤ ps.length ∧ σ = [(3, .pointer (some ⟨w.heap.size, 0, none⟩)), (6, v), (7, .int .i64 ps.length), (8, .int .i64 (j : Nat))] ∧
      Keep [] w w' ∧ Blk w' w.heap.size (bools (ahead ((ps.take j).map (·.1)))) 147 ∧ chk ps = chkFrom ((ps.take j).map (·.1)) (ps.drop j))
    (ps.length - 0) _ ?_ ⟨0, rfl, Nat.zero_le _, rfl, hk1, by simpa using ha1, by simp [chk]⟩ ?_
  · exact ⟨rfl, rfl, rfl, rfl, trivial⟩
  clear hk1 ha1
  rintro m σ w2 ih ⟨j, hm, hj, rfl, hk2, ha2, hc⟩
  refine au ?_
  rcases Nat.lt_or_ge j ps.length with hlt | hge
  · refine pl_val (.bool true) rfl rfl (val_int .i64 _ _ _ rfl rfl rfl (by simp [intOp, hlt]) w2) ?_
    refine au ?_
    obtain ⟨p, hp⟩ : ∃ p, ps[j]? = some p := ⟨ps[j], List.getElem?_eq_getElem hlt⟩
    obtain ⟨b, q, cap, hv', hb, hr⟩ := (h.keep hk2 (by simp)).at hp
    have h8 := h.wf p (List.mem_of_getElem? hp)
    rw [drop_at hp, chkFrom] at hc
    refine pl_val _ rfl rfl (val_index j hT rfl (by rw [hv']; rfl) rfl rfl rfl hlt w2) ?_
    refine pl_val (.agg (pcell p).toArray) rfl rfl (val_load _ hT rfl rfl (by rw [pcell_length h8]; rfl) hr) ?_
    refine pl_op rfl rfl (opTo_alloc _ rfl zero_page ?_)
    have hk3 := hk2.alloc (.cells (pcell (0, List.replicate 8 0)).toArray 204)
    have hx3 := Blk.new w2 (pcell (0, List.replicate 8 0)) 204
    have ha3 := ha2.alloc (.cells (pcell (0, List.replicate 8 0)).toArray 204)
    have hn : w.heap.size ≠ w2.heap.size := by have := ha2.lt; omega
    have hsz := hk2.size
    generalize (w2.alloc (.cells (pcell (0, List.replicate 8 0)).toArray 204)) = w3 at *
    refine au ?_
    refine pl_op rfl rfl (opTo_store _ rfl rfl rfl rfl (by rw [pcell_length h8]; decide +kernel) hx3 (by rw [pcell_length h8]; decide) (pcell_one _) ?_)
    rw [splice_all (by rw [pcell_length h8]; rfl)]
    have hk4 := hk3.setRow w2.heap.size (pcell p).toArray (.inr hsz)
    have hx4 := hx3.set (pcell p)
    have ha4 := ha3.other (pcell p).toArray hn
    generalize (w3.setRow w2.heap.size (pcell p).toArray) = w4 at *
    refine au ?_
    refine pl_val (.int .i64 p.1) rfl rfl (val_load1 hT rfl rfl rfl (hx4.cell rfl)) ?_
    refine pl_op rfl rfl (opTo_call rfl rfl rfl rfl (by decide +kernel) ((hasP_ret p.1 _).mono ?_))
    rintro v' w5 ⟨rfl, rfl⟩
    cases hb : hasP p.1 with
    | false =>
      refine au ?_
      rw [if_pos hb] at hc
      exact rn_ret Tryz.func140 (.inl ⟨_, rfl, rfl⟩) ⟨by rw [hc], hk4⟩
    | true =>
      have hi : 0 ≤ p.1 ∧ p.1 < 14 := by simpa [hasP] using hb
      rw [if_neg (by simp [hb])] at hc
      refine au ?_
      refine pl_val (.int .i64 p.1) rfl rfl (val_load1 hT rfl rfl rfl (hx4.cell rfl)) ?_
      refine pl_val _ rfl rfl (val_indexArr p.1.toNat hT rfl rfl rfl rfl (by omega) (by omega) w5) ?_
      refine pl_val (.bool (((ps.take j).map (·.1)).contains p.1)) rfl rfl (val_load1 hT rfl rfl rfl (ha4.cell (by rw [Nat.zero_add, Nat.mul_one]; simp only [bools, List.getElem?_map, ahead_at _ hb]; rfl))) ?_
      cases hd : ((ps.take j).map (·.1)).contains p.1 with
      | true =>
        rw [hd, if_pos rfl] at hc
        refine au ?_
        exact rn_ret Tryz.func140 (.inl ⟨_, rfl, rfl⟩) ⟨by rw [hc], hk4⟩
      | false =>
        rw [hd, if_neg (by simp)] at hc
        refine au ?_
        refine pl_val (.int .i64 p.1) rfl rfl (val_load1 hT rfl rfl rfl (hx4.cell rfl)) ?_
        refine pl_val _ rfl rfl (val_indexArr p.1.toNat hT rfl rfl rfl rfl (by omega) (by omega) w5) ?_
        refine pl_op rfl rfl (opTo_store [.bool true] rfl rfl rfl rfl (by decide +kernel) ha4 (by rw [bools_length, ahead_length]; simp; omega) (by simp; rfl) ?_)
        have e6 : splice (bools (ahead ((ps.take j).map (·.1)))) (0 + p.1.toNat * 1) [.bool true] = bools (ahead ((ps.take (j + 1)).map (·.1))) := by
          rw [Nat.zero_add, Nat.mul_one, splice_bools _ _ _ (by rw [ahead_length]; omega), ahead_set _ hb, ← take_succ_map hp]
        rw [e6]
        have hk6 := hk4.setRow w.heap.size (bools (ahead ((ps.take (j + 1)).map (·.1)))).toArray (.inr (Nat.le_refl _))
        have ha6 := ha4.set (bools (ahead ((ps.take (j + 1)).map (·.1))))
        generalize (w5.setRow w.heap.size (bools (ahead ((ps.take (j + 1)).map (·.1)))).toArray) = w6 at *
        refine au ?_
        refine pl_val (.int .i64 ((j + 1 : Nat) : Int)) rfl rfl (val_int .i64 j 1 _ rfl rfl rfl (by simp only [intOp]; rw [wrap_i64 (by omega) (by omega)]; rfl) w6) ?_
        refine au ?_
        refine rn_sub ?_ (ih (ps.length - (j + 1)) _ w6 (by omega) ⟨j + 1, rfl, hlt, rfl, hk6, ha6, by rw [take_succ_map hp]; exact hc⟩)
        exact ⟨rfl, rfl, rfl, rfl, trivial⟩
  · refine pl_val (.bool false) rfl rfl (val_int .i64 _ _ _ rfl rfl rfl (by simp [intOp]; omega) w2) ?_
    refine au ?_
    refine rn_ret Tryz.func140 (.inl ⟨_, rfl, rfl⟩) ⟨?_, hk2⟩
    rw [hc, List.drop_eq_nil_of_le hge]
    rfl
end E
end Go.Proofs.YtmplkogkphmmjafGreat

/- A commit in memory; the contracts of its take, write and flush. -/
namespace Go.Proofs.YtmplkogkphmmjafGreat
set_option maxRecDepth 20000
set_option maxHeartbeats 4000000
namespace E
open Go.Proofs

/-- A deed: a write, or a flush. -/
abbrev Deed := Option (Int × List Int)

def ccells (s : Nat) (N : List Int) (K : List Bool) (dv : Value) : List Value := [Value.pointer (some ⟨s, 0, none⟩)] ++ ints N ++ (bools K ++ [dv])

/-- The types of what changes while a commit is made and done. -/
def mutT (e : Nat) : Bool := e == 209 || e == 1 || e == 113 || e == 184

/-- Blocks below B stay, and so do those of other types. -/
structure Tch (B : Nat) (w w' : World) : Prop where
  os : w'.os = w.os
  tape : w'.tape = w.tape
  output : w'.output = w.output
  size : w.heap.size ≤ w'.heap.size
  low : ∀ k, k < B → w'.heap[k]? = w.heap[k]?
  typ : ∀ k L e, Blk w k L e → mutT e = false → Blk w' k L e

theorem Tch.refl (B : Nat) (w : World) : Tch B w w := ⟨rfl, rfl, rfl, Nat.le_refl _, fun _ _ => rfl, fun _ _ _ h _ => h⟩
theorem Tch.trans {B : Nat} {w w' w'' : World} (h : Tch B w w') (h' : Tch B w' w'') : Tch B w w'' :=
  ⟨h'.os.trans h.os, h'.tape.trans h.tape, h'.output.trans h.output, Nat.le_trans h.size h'.size, fun k hk => (h'.low k hk).trans (h.low k hk), fun k L e hb he => h'.typ k L e (h.typ k L e hb he) he⟩
theorem Keep.tch {B : Nat} {w w' : World} {fp : List Nat} (h : Keep fp w w') (hB : B ≤ w.heap.size) (hf : ∀ k ∈ fp, B ≤ k ∧ ∀ L e, Blk w k L e → mutT e = true) : Tch B w w' :=
  ⟨h.os, h.tape, h.output, h.size, fun k hk => h.block k (Nat.lt_of_lt_of_le hk hB) fun hm => by have := (hf k hm).1; omega, fun k L e hb he => h.blk hb fun hm => by
    rw [(hf k hm).2 L e hb] at he; cases he⟩
theorem Keep.tch0 {B : Nat} {w w' : World} (h : Keep [] w w') (hB : B ≤ w.heap.size) : Tch B w w' := h.tch hB (by simp)
theorem Tch.keep {B : Nat} {w0 w w' : World} (h0 : Keep [] w0 w) (h : Tch B w w') (hB : w0.heap.size ≤ B) : Keep [] w0 w' :=
  ⟨h.os.trans h0.os, h.tape.trans h0.tape, h.output.trans h0.output, Nat.le_trans h0.size h.size, fun k hk _ => (h.low k (Nat.lt_of_lt_of_le hk hB)).trans (h0.block k hk (by simp))⟩

def DeedV (w : World) (c : Nat) (fv : Value) : Deed → Prop
  | none => ∃ x, fv = .func (.func 154) #[] #[.pointer (some ⟨x, 0, none⟩)] ∧ Blk w x [.pointer (some ⟨c, 0, none⟩)] 201
  | some (a, ws) => ∃ x y z, fv = .func (.func 156) #[] #[.pointer (some ⟨x, 0, none⟩), .pointer (some ⟨y, 0, none⟩), .pointer (some ⟨z, 0, none⟩)] ∧
      Blk w x [.pointer (some ⟨c, 0, none⟩)] 201 ∧ Blk w y [.int .i64 a] 2 ∧ Blk w z (ints ws) 109 ∧ ws.length = 8

theorem DeedV.tch {B : Nat} {w w' : World} {c : Nat} {fv : Value} {d : Deed} (h : DeedV w c fv d) (hk : Tch B w w') : DeedV w' c fv d := by
  cases d with
  | none =>
    obtain ⟨x, h1, h2⟩ := h
    exact ⟨x, h1, hk.typ _ _ _ h2 (by decide)⟩
  | some p =>
    obtain ⟨x, y, z, h1, h2, h3, h4, h5⟩ := h
    exact ⟨x, y, z, h1, hk.typ _ _ _ h2 (by decide), hk.typ _ _ _ h3 (by decide), hk.typ _ _ _ h4 (by decide), h5⟩
theorem DeedV.one {w : World} {c : Nat} {fv : Value} {d : Deed} (h : DeedV w c fv d) : fv.oneCell' = true := by
  cases d with
  | none => obtain ⟨x, rfl, _⟩ := h; rfl
  | some p => obtain ⟨x, y, z, rfl, _⟩ := h; rfl

def Fvs (w : World) (c : Nat) (fvs : List Value) (D : List Deed) : Prop := ∀ (j : Nat) (d : Deed), D[j]? = some d → ∃ fv, fvs[j]? = some fv ∧ DeedV w c fv d

structure ComV (B : Nat) (w : World) (c s : Nat) (N : List Int) (K : List Bool) (dv : Value) (fvs : List Value) (D : List Deed) : Prop where
  blk : Blk w c (ccells s N K dv) 209
  base : B ≤ c
  nlen : N.length = 17
  klen : K.length = 34
  own : Own w B 1 1 dv D.length fvs
  fs : Fvs w c fvs D

theorem Own.typ {w : World} {B e size n : Nat} {v : Value} {xs : List Value} (h : Own w B e size v n xs) : ∀ k ∈ v.ownBlock.toList, ∃ L, Blk w k L e := by
  intro k hk
  rcases h.2 with ⟨rfl, _⟩ | ⟨g, cap, cur, rfl, hb, hg, _⟩
  · simp [Value.ownBlock] at hk
  · simp [Value.ownBlock] at hk
    subst hk
    exact ⟨cur, hg⟩
theorem blk_typ {w : World} {k : Nat} {L L' : List Value} {e e' : TypeId} (h : Blk w k L e) (h' : Blk w k L' e') : e = e' := by
  by_cases he : e = e'
  · exact he
  · exact absurd rfl (Blk.ne h h' he)

theorem splice_mid (A M C vs : List Value) (i : Nat) (h : i + vs.length ≤ M.length) : splice (A ++ M ++ C) (A.length + i) vs = A ++ splice M i vs ++ C := by
  unfold splice
  have e1 : (A ++ M ++ C).take (A.length + i) = A ++ M.take i := by
    rw [List.append_assoc, List.take_length_add_append, List.take_append_of_le_length (by omega)]
  have e2 : (A ++ M ++ C).drop (A.length + i + vs.length) = M.drop (i + vs.length) ++ C := by
    rw [List.append_assoc, Nat.add_assoc, List.drop_length_add_append, List.drop_append_of_le_length (by omega)]
  rw [e1, e2]
  simp [List.append_assoc]

theorem splice_ints (l : List Int) (i : Nat) (x : Int) (h : i < l.length) : splice (ints l) i [.int .i64 x] = ints (l.set i x) := by
  rw [List.set_eq_take_append_cons_drop, if_pos h]
  simp [splice, ints, List.map_take, List.map_drop]

section
variable {B : Nat} {w w' : World} {c s : Nat} {N : List Int} {K : List Bool} {dv : Value} {fvs : List Value} {D : List Deed}

theorem ccells_length (hN : N.length = 17) (hK : K.length = 34) : (ccells s N K dv).length = 53 := by simp [ccells, ints_length, bools_length, hN, hK]
theorem ccells_setN (i : Nat) (x : Int) (h : i < N.length) : splice (ccells s N K dv) (1 + i) [.int .i64 x] = ccells s (N.set i x) K dv := by
  unfold ccells
  have := splice_mid [Value.pointer (some ⟨s, 0, none⟩)] (ints N) (bools K ++ [dv]) [.int .i64 x] i (by simp [ints_length]; omega)
  rw [splice_ints _ _ _ h] at this
  exact this
theorem ccells_setK (hN : N.length = 17) (i : Nat) (b : Bool) (h : i < K.length) : splice (ccells s N K dv) (18 + i) [.bool b] = ccells s N (K.set i b) dv := by
  unfold ccells
  have := splice_mid ([Value.pointer (some ⟨s, 0, none⟩)] ++ ints N) (bools K) [dv] [.bool b] i (by simp [bools_length]; omega)
  rw [splice_bools _ _ _ h] at this
  simpa [ints_length, hN, List.append_assoc] using this
theorem ccells_setD (hN : N.length = 17) (hK : K.length = 34) (dv' : Value) : splice (ccells s N K dv) 52 [dv'] = ccells s N K dv' := by
  unfold ccells
  have := splice_mid ([Value.pointer (some ⟨s, 0, none⟩)] ++ ints N ++ bools K) [dv] [] [dv'] 0 (by simp)
  have e : splice [dv] 0 [dv'] = [dv'] := rfl
  rw [e] at this
  simpa [ints_length, bools_length, hN, hK, List.append_assoc] using this

theorem ComV.cellS (h : ComV B w c s N K dv fvs D) : w.cell? ⟨c, 0, none⟩ = some (.pointer (some ⟨s, 0, none⟩)) := h.blk.cell rfl
theorem ComV.cellN (h : ComV B w c s N K dv fvs D) {i : Nat} {x : Int} (hx : N[i]? = some x) : w.cell? ⟨c, 1 + i, none⟩ = some (.int .i64 x) := h.blk.cell (by
  have hlt : i < N.length := (List.getElem?_eq_some_iff.1 hx).1
  have hx2 := (List.getElem?_eq_some_iff.1 hx).2
  simp only [ccells]
  rw [List.getElem?_append_left (by simp [ints_length]; omega), List.getElem?_append_right (by simp)]
  simp [ints, hx])
theorem ComV.cellK (h : ComV B w c s N K dv fvs D) {i : Nat} {x : Bool} (hx : K[i]? = some x) : w.cell? ⟨c, 18 + i, none⟩ = some (.bool x) := h.blk.cell (by
  have hlt : i < K.length := (List.getElem?_eq_some_iff.1 hx).1
  simp only [ccells]
  rw [List.getElem?_append_right (by simp [ints_length, h.nlen]), List.getElem?_append_left (by simp [ints_length, bools_length, h.nlen]; omega)]
  simp [ints_length, h.nlen, bools, hx])
theorem ComV.cellD (h : ComV B w c s N K dv fvs D) : w.cell? ⟨c, 52, none⟩ = some dv := h.blk.cell (by
  simp only [ccells]
  rw [List.getElem?_append_right (by simp [ints_length, h.nlen]), List.getElem?_append_right (by simp [ints_length, bools_length, h.nlen, h.klen])]
  simp [ints_length, bools_length, h.nlen, h.klen])
theorem ComV.rangeN (h : ComV B w c s N K dv fvs D) (i m : Nat) (him : i + m ≤ 17) : w.rangeAt c (1 + i) (ints ((N.drop i).take m)) := h.blk.range (by
  have h17 := h.nlen
  rw [ints_length, List.length_take, List.length_drop, h17, Nat.min_eq_left (by omega)]
  simp only [ccells]
  rw [List.drop_append_of_le_length (by simp [ints_length, h17]; omega), List.take_append_of_le_length (by simp [ints_length, h17]; omega), Nat.add_comm 1 i]
  simp [ints, List.map_take, List.map_drop])

theorem ComV.notDv (h : ComV B w c s N K dv fvs D) : ∀ k, dv.ownBlock = some k → k ≠ c := fun k hk e => by
  obtain ⟨L, hL⟩ := h.own.typ k (by simp [hk])
  subst e
  exact absurd (blk_typ hL h.blk) (by decide)

/-- What does not turn the commit leaves it as it is. -/
theorem ComV.keep {fp : List Nat} (h : ComV B w c s N K dv fvs D) (hk : Keep fp w w') (hf : ∀ k ∈ fp, ∀ L e, Blk w k L e → e = 113 ∨ e = 184) : ComV B w' c s N K dv fvs D := by
  refine ⟨hk.blk h.blk fun hm => ?_, h.base, h.nlen, h.klen, h.own.keep hk fun k e hm => ?_, fun j d hd => ?_⟩
  · have := hf c hm _ _ h.blk
    revert this; decide
  · obtain ⟨L, hL⟩ := h.own.typ k (by simp [e])
    have := hf k hm _ _ hL
    revert this; decide
  · obtain ⟨fv, h1, h2⟩ := h.fs j d hd
    refine ⟨fv, h1, ?_⟩
    have ht : Tch 0 w w' := hk.tch (Nat.zero_le _) fun k hm => ⟨Nat.zero_le _, fun L e hb => by
      rcases hf k hm L e hb with rfl | rfl <;> decide⟩
    exact h2.tch ht
theorem ComV.keep0 (h : ComV B w c s N K dv fvs D) (hk : Keep [] w w') : ComV B w' c s N K dv fvs D := h.keep hk (by simp)

/-- Another state, other sectors that are taken. -/
theorem ComV.put (h : ComV B w c s N K dv fvs D) (N' : List Int) (K' : List Bool) (hN : N'.length = 17) (hK : K'.length = 34) :
    ComV B (w.setRow c (ccells s N' K' dv).toArray) c s N' K' dv fvs D ∧ Tch B w (w.setRow c (ccells s N' K' dv).toArray) ∧ Keep [c] w (w.setRow c (ccells s N' K' dv).toArray) := by
  have hk : Keep [c] w (w.setRow c (ccells s N' K' dv).toArray) := (Keep.refl _ _).setRow _ _ (.inl (by simp))
  have hB : B ≤ w.heap.size := Nat.le_trans h.base (Nat.le_of_lt h.blk.lt)
  have ht : Tch B w (w.setRow c (ccells s N' K' dv).toArray) := hk.tch hB fun k hm => by
    simp at hm
    subst hm
    exact ⟨h.base, fun L e hb => by rw [blk_typ hb h.blk]; decide⟩
  refine ⟨⟨h.blk.set _, h.base, hN, hK, h.own.keep hk fun k e => by simpa using h.notDv k e, fun j d hd => ?_⟩, ht, hk⟩
  obtain ⟨fv, h1, h2⟩ := h.fs j d hd
  exact ⟨fv, h1, h2.tch ht⟩
end

def takeK (K : List Bool) (a : Int) : List Bool := if hasB a then K.set a.toNat true else K
theorem takeK_length (K : List Bool) (a : Int) : (takeK K a).length = K.length := by unfold takeK; split <;> simp

theorem take_ret {B : Nat} {w : World} {c s : Nat} {N : List Int} {K : List Bool} {dv : Value} {fvs : List Value} {D : List Deed} (h : ComV B w c s N K dv fvs D) (a : Int) :
    Ret Tryz.prog 151 [.pointer (some ⟨c, 0, none⟩), .int .i64 a] w fun v w' => v = .tuple #[] ∧ ComV B w' c s N (takeK K a) dv fvs D ∧ Tch B w w' := by
  refine ret_of 11 Tryz.func151 rfl rfl (by simp) ?_
  refine au ?_
  refine pl_op rfl rfl (opTo_call rfl rfl rfl rfl (by decide +kernel) ((dHas_ret a _).mono ?_))
  rintro v w1 ⟨rfl, rfl⟩
  cases hb : hasB a with
  | false =>
    refine au ?_
    exact rn_end Tryz.func151 (.inr (.inl ⟨rfl, rfl⟩)) ⟨rfl, by rw [takeK, hb]; exact h, Tch.refl _ _⟩
  | true =>
    have hi : 0 ≤ a ∧ a < 34 := by simpa [hasB] using hb
    refine au ?_
    refine pl_val _ rfl rfl (val_indexArr a.toNat hT rfl rfl rfl rfl (by omega) (by omega) w1) ?_
    refine pl_op rfl rfl (opTo_store [.bool true] rfl rfl rfl rfl (by decide +kernel) h.blk (by rw [ccells_length h.nlen h.klen]; simp; omega) (by simp; rfl) ?_)
    have e : splice (ccells s N K dv) (0 + 18 + a.toNat * 1) [.bool true] = ccells s N (takeK K a) dv := by
      rw [Nat.zero_add, Nat.mul_one, ccells_setK h.nlen _ _ (by rw [h.klen]; omega), takeK, hb]
      rfl
    rw [e]
    refine au ?_
    obtain ⟨h1, h2, _⟩ := h.put N (takeK K a) h.nlen (by rw [takeK_length, h.klen])
    exact rn_end Tryz.func151 (.inr (.inl ⟨rfl, rfl⟩)) ⟨rfl, h1, h2⟩
end E
end Go.Proofs.YtmplkogkphmmjafGreat
