/- Pages that are handed over, and the contract of store.Check. -/
import Derived.Test.YtcnjmjdnlhiflabStoC
namespace Go.Proofs.Ytcnjmjdnlhiflab
set_option maxRecDepth 20000
namespace E
open Go.Proofs

abbrev Pg := Int × List Int
def pcell (p : Pg) : List Value := .int .i64 p.1 :: ints p.2
def pcells (l : List Pg) : List Value := l.flatMap pcell
theorem pcell_length {p : Pg} (h : p.2.length = 8) : (pcell p).length = 9 := by simp [pcell, ints_length, h]
theorem pcell_one (p : Pg) : ∀ u ∈ pcell p, u.oneCell' = true := by
  intro u hu
  rcases List.mem_cons.1 hu with rfl | hu
  · rfl
  · exact ints_one p.2 u hu

/-- A slice of pages, in blocks below B. -/
structure Pgs (B : Nat) (w : World) (v : Value) (ps : List Pg) : Prop where
  ex : ∃ a cap, v = .slice a ps.length cap ∧ (ps ≠ [] → ∃ b q, a = some ⟨b, q, none⟩ ∧ b < B ∧ w.rangeAt b q (pcells ps))
  wf : ∀ p ∈ ps, p.2.length = 8
  le : B ≤ w.heap.size

theorem Pgs.keep {B : Nat} {w w' : World} {v : Value} {ps : List Pg} {fp : List Nat} (h : Pgs B w v ps) (hk : Keep fp w w') (hn : ∀ k ∈ fp, B ≤ k) : Pgs B w' v ps := by
  obtain ⟨a, cap, hv, hm⟩ := h.ex
  refine ⟨⟨a, cap, hv, fun hne => ?_⟩, h.wf, Nat.le_trans h.le hk.size⟩
  obtain ⟨b, q, ha, hlt, hr⟩ := hm hne
  exact ⟨b, q, ha, hlt, hk.range hr (Nat.lt_of_lt_of_le hlt h.le) fun hm => by have := hn b hm; omega⟩
theorem Pgs.at {B : Nat} {w : World} {v : Value} {ps : List Pg} (h : Pgs B w v ps) {j : Nat} {p : Pg} (hp : ps[j]? = some p) :
    ∃ b q cap, v = .slice (some ⟨b, q, none⟩) ps.length cap ∧ b < B ∧ w.rangeAt b (q + j * 9) (pcell p) := by
  obtain ⟨a, cap, hv, hm⟩ := h.ex
  obtain ⟨b, q, ha, hlt, hr⟩ := hm (by intro e; simp [e] at hp)
  refine ⟨b, q, cap, by rw [hv, ha], hlt, range_sub hr (j * 9) ?_⟩
  rw [pcell_length (h.wf p (List.mem_of_getElem? hp))]
  exact flat_at (fun q hq => pcell_length (h.wf q hq)) hp

/-- The code of pages, behind these numbers. -/
def chkFrom (done : List Int) : List Pg → Int
  | [] => 0
  | p :: r => if hasP p.1 = false then 1 else if done.contains p.1 then 9 else chkFrom (done ++ [p.1]) r
def chk (ps : List Pg) : Int := chkFrom [] ps

def bools (l : List Bool) : List Value := l.map fun b => .bool b
theorem bools_length (l : List Bool) : (bools l).length = l.length := by simp [bools]
theorem bools_one (l : List Bool) : ∀ u ∈ bools l, u.oneCell' = true := by
  intro u hu
  simp only [bools, List.mem_map] at hu
  obtain ⟨x, _, rfl⟩ := hu
  rfl
theorem splice_bools (l : List Bool) (i : Nat) (b : Bool) (h : i < l.length) : splice (bools l) i [.bool b] = bools (l.set i b) := by
  rw [List.set_eq_take_append_cons_drop, if_pos h]
  simp [splice, bools, List.map_take, List.map_drop]

/-- Which of the pages are ahead. -/
def ahead (done : List Int) : List Bool := (List.range 14).map fun i => done.contains ((i : Nat) : Int)
theorem ahead_length (done : List Int) : (ahead done).length = 14 := by simp [ahead]
theorem ahead_set (done : List Int) {i : Int} (h : hasP i = true) : (ahead done).set i.toNat true = ahead (done ++ [i]) := by
  simp [hasP] at h
  apply List.ext_getElem
  · simp [ahead]
  · intro k h1 h2
    simp only [List.length_set, ahead_length] at h1
    simp only [List.getElem_set, ahead, List.getElem_map, List.getElem_range]
    by_cases e : i.toNat = k
    · have : i = (k : Int) := by omega
      simp [this]
    · have : ¬ ((k : Int) = i) := by omega
      simp [e, this]
theorem ahead_at (done : List Int) {i : Int} (h : hasP i = true) : (ahead done)[i.toNat]? = some (done.contains i) := by
  simp [hasP] at h
  rw [List.getElem?_eq_getElem (by rw [ahead_length]; omega)]
  simp only [ahead, List.getElem_map, List.getElem_range]
  rw [show ((i.toNat : Nat) : Int) = i by omega]

theorem zero_ahead : ((Try.prog.info? 52).bind (·.zero)).map (·.cells) = some (bools (List.replicate 14 false)).toArray := by kernel_rfl
theorem zero_page : ((Try.prog.info? 43).bind (·.zero)).map (·.cells) = some (pcell (0, List.replicate 8 0)).toArray := by kernel_rfl
theorem ahead_nil : ahead [] = List.replicate 14 false := by decide

theorem take_succ_map {ps : List Pg} {j : Nat} {p : Pg} (hp : ps[j]? = some p) : (ps.take (j + 1)).map (·.1) = (ps.take j).map (·.1) ++ [p.1] := by
  have hlt : j < ps.length := (List.getElem?_eq_some_iff.1 hp).1
  have hj : ps[j] = p := (List.getElem?_eq_some_iff.1 hp).2
  rw [List.take_succ_eq_append_getElem hlt, hj]
  simp
theorem drop_at {α : Type} {ps : List α} {j : Nat} {p : α} (hp : ps[j]? = some p) : ps.drop j = p :: ps.drop (j + 1) := by
  have hlt : j < ps.length := (List.getElem?_eq_some_iff.1 hp).1
  have hj : ps[j] = p := (List.getElem?_eq_some_iff.1 hp).2
  rw [List.drop_eq_getElem_cons hlt, hj]

theorem check_ret {B : Nat} {w : World} {v : Value} {ps : List Pg} (h : Pgs B w v ps) (hlen : ps.length < 1000000) :
    Ret Try.prog 9 [v] w fun r w' => r = .int .i64 (chk ps) ∧ Keep [] w w' := by
  refine ret_of 24 Try.func9 rfl rfl (by simp) ?_
  repeat (first | refine pl_pure hT rfl rfl rfl ?_ | refine pl_nil ?_ | refine rn_seq ?_ | refine rn_plain ?_ | refine rn_block ?_ | refine rn_inBlock ?_ | refine rn_skip ?_ | refine rn_true rfl ?_ | refine rn_false rfl ?_ | refine rn_exit rfl ?_ | refine pl_not rfl rfl ?_)
  refine pl_op rfl rfl (opTo_alloc _ rfl zero_ahead ?_)
  have hk1 : Keep [] w (w.alloc (.cells (bools (List.replicate 14 false)).toArray 52)) := (Keep.refl _ _).alloc _
  have ha1 := Blk.new w (bools (List.replicate 14 false)) 52
  rw [← ahead_nil] at ha1 hk1 ⊢
  generalize (w.alloc (.cells (bools (ahead [])).toArray 52)) = w1 at *
  repeat (first | refine pl_pure hT rfl rfl rfl ?_ | refine pl_nil ?_ | refine rn_seq ?_ | refine rn_plain ?_ | refine rn_block ?_ | refine rn_inBlock ?_ | refine rn_skip ?_ | refine rn_true rfl ?_ | refine rn_false rfl ?_ | refine rn_exit rfl ?_ | refine pl_not rfl rfl ?_)
  obtain ⟨va, vcap, hv, _⟩ := h.ex
  refine pl_val (.int .i64 ps.length) rfl rfl (val_pure hT (by rw [hv]; rfl) w1) ?_
  repeat (first | refine pl_pure hT rfl rfl rfl ?_ | refine pl_nil ?_ | refine rn_seq ?_ | refine rn_plain ?_ | refine rn_block ?_ | refine rn_inBlock ?_ | refine rn_skip ?_ | refine rn_true rfl ?_ | refine rn_false rfl ?_ | refine rn_exit rfl ?_ | refine pl_not rfl rfl ?_)
  refine rn_ind (fun m σ w' => ∃ j, m = ps.length - j ∧ j ≤ ps.length ∧ σ = [(3, .pointer (some ⟨w.heap.size, 0, none⟩)), (6, v), (7, .int .i64 ps.length), (8, .int .i64 (j : Nat))] ∧
      Keep [] w w' ∧ Blk w' w.heap.size (bools (ahead ((ps.take j).map (·.1)))) 52 ∧ chk ps = chkFrom ((ps.take j).map (·.1)) (ps.drop j))
    (ps.length - 0) _ ?_ ⟨0, rfl, Nat.zero_le _, rfl, hk1, by simpa using ha1, by simp [chk]⟩ ?_
  · exact ⟨rfl, rfl, rfl, rfl, trivial⟩
  clear hk1 ha1
  rintro m σ w2 ih ⟨j, hm, hj, rfl, hk2, ha2, hc⟩
  repeat (first | refine pl_pure hT rfl rfl rfl ?_ | refine pl_nil ?_ | refine rn_seq ?_ | refine rn_plain ?_ | refine rn_block ?_ | refine rn_inBlock ?_ | refine rn_skip ?_ | refine rn_true rfl ?_ | refine rn_false rfl ?_ | refine rn_exit rfl ?_ | refine pl_not rfl rfl ?_)
  rcases Nat.lt_or_ge j ps.length with hlt | hge
  · refine pl_val (.bool true) rfl rfl (val_int .i64 _ _ _ rfl rfl rfl (by simp [intOp, hlt]) w2) ?_
    repeat (first | refine pl_pure hT rfl rfl rfl ?_ | refine pl_nil ?_ | refine rn_seq ?_ | refine rn_plain ?_ | refine rn_block ?_ | refine rn_inBlock ?_ | refine rn_skip ?_ | refine rn_true rfl ?_ | refine rn_false rfl ?_ | refine rn_exit rfl ?_ | refine pl_not rfl rfl ?_)
    obtain ⟨p, hp⟩ : ∃ p, ps[j]? = some p := ⟨ps[j], List.getElem?_eq_getElem hlt⟩
    obtain ⟨b, q, cap, hv', hb, hr⟩ := (h.keep hk2 (by simp)).at hp
    have h8 := h.wf p (List.mem_of_getElem? hp)
    rw [drop_at hp, chkFrom] at hc
    refine pl_val _ rfl rfl (val_index j hT rfl (by rw [hv']; rfl) rfl rfl rfl hlt w2) ?_
    refine pl_val (.agg (pcell p).toArray) rfl rfl (val_load _ hT rfl rfl (by rw [pcell_length h8]; rfl) hr) ?_
    refine pl_op rfl rfl (opTo_alloc _ rfl zero_page ?_)
    have hk3 := hk2.alloc (.cells (pcell (0, List.replicate 8 0)).toArray 43)
    have hx3 := Blk.new w2 (pcell (0, List.replicate 8 0)) 43
    have ha3 := ha2.alloc (.cells (pcell (0, List.replicate 8 0)).toArray 43)
    have hn : w.heap.size ≠ w2.heap.size := by have := ha2.lt; omega
    have hsz := hk2.size
    generalize (w2.alloc (.cells (pcell (0, List.replicate 8 0)).toArray 43)) = w3 at *
    repeat (first | refine pl_pure hT rfl rfl rfl ?_ | refine pl_nil ?_ | refine rn_seq ?_ | refine rn_plain ?_ | refine rn_block ?_ | refine rn_inBlock ?_ | refine rn_skip ?_ | refine rn_true rfl ?_ | refine rn_false rfl ?_ | refine rn_exit rfl ?_ | refine pl_not rfl rfl ?_)
    refine pl_op rfl rfl (opTo_store _ rfl rfl rfl rfl (by rw [pcell_length h8]; decide +kernel) hx3 (by rw [pcell_length h8]; decide) (pcell_one _) ?_)
    rw [splice_all (by rw [pcell_length h8]; rfl)]
    have hk4 := hk3.setRow w2.heap.size (pcell p).toArray (.inr hsz)
    have hx4 := hx3.set (pcell p)
    have ha4 := ha3.other (pcell p).toArray hn
    generalize (w3.setRow w2.heap.size (pcell p).toArray) = w4 at *
    repeat (first | refine pl_pure hT rfl rfl rfl ?_ | refine pl_nil ?_ | refine rn_seq ?_ | refine rn_plain ?_ | refine rn_block ?_ | refine rn_inBlock ?_ | refine rn_skip ?_ | refine rn_true rfl ?_ | refine rn_false rfl ?_ | refine rn_exit rfl ?_ | refine pl_not rfl rfl ?_)
    refine pl_val (.int .i64 p.1) rfl rfl (val_load1 hT rfl rfl rfl (hx4.cell rfl)) ?_
    refine pl_op rfl rfl (opTo_call rfl rfl rfl rfl (by decide +kernel) ((hasP_ret p.1 _).mono ?_))
    rintro v' w5 ⟨rfl, rfl⟩
    cases hb : hasP p.1 with
    | false =>
      repeat (first | refine pl_pure hT rfl rfl rfl ?_ | refine pl_nil ?_ | refine rn_seq ?_ | refine rn_plain ?_ | refine rn_block ?_ | refine rn_inBlock ?_ | refine rn_skip ?_ | refine rn_true rfl ?_ | refine rn_false rfl ?_ | refine rn_exit rfl ?_ | refine pl_not rfl rfl ?_)
      rw [if_pos hb] at hc
      exact rn_ret Try.func9 (.inl ⟨_, rfl, rfl⟩) ⟨by rw [hc], hk4⟩
    | true =>
      have hi : 0 ≤ p.1 ∧ p.1 < 14 := by simpa [hasP] using hb
      rw [if_neg (by simp [hb])] at hc
      repeat (first | refine pl_pure hT rfl rfl rfl ?_ | refine pl_nil ?_ | refine rn_seq ?_ | refine rn_plain ?_ | refine rn_block ?_ | refine rn_inBlock ?_ | refine rn_skip ?_ | refine rn_true rfl ?_ | refine rn_false rfl ?_ | refine rn_exit rfl ?_ | refine pl_not rfl rfl ?_)
      refine pl_val (.int .i64 p.1) rfl rfl (val_load1 hT rfl rfl rfl (hx4.cell rfl)) ?_
      refine pl_val _ rfl rfl (val_indexArr p.1.toNat hT rfl rfl rfl rfl (by omega) (by omega) w5) ?_
      refine pl_val (.bool (((ps.take j).map (·.1)).contains p.1)) rfl rfl (val_load1 hT rfl rfl rfl (ha4.cell (by rw [Nat.zero_add, Nat.mul_one]; simp only [bools, List.getElem?_map, ahead_at _ hb]; rfl))) ?_
      cases hd : ((ps.take j).map (·.1)).contains p.1 with
      | true =>
        rw [hd, if_pos rfl] at hc
        repeat (first | refine pl_pure hT rfl rfl rfl ?_ | refine pl_nil ?_ | refine rn_seq ?_ | refine rn_plain ?_ | refine rn_block ?_ | refine rn_inBlock ?_ | refine rn_skip ?_ | refine rn_true rfl ?_ | refine rn_false rfl ?_ | refine rn_exit rfl ?_ | refine pl_not rfl rfl ?_)
        exact rn_ret Try.func9 (.inl ⟨_, rfl, rfl⟩) ⟨by rw [hc], hk4⟩
      | false =>
        rw [hd, if_neg (by simp)] at hc
        repeat (first | refine pl_pure hT rfl rfl rfl ?_ | refine pl_nil ?_ | refine rn_seq ?_ | refine rn_plain ?_ | refine rn_block ?_ | refine rn_inBlock ?_ | refine rn_skip ?_ | refine rn_true rfl ?_ | refine rn_false rfl ?_ | refine rn_exit rfl ?_ | refine pl_not rfl rfl ?_)
        refine pl_val (.int .i64 p.1) rfl rfl (val_load1 hT rfl rfl rfl (hx4.cell rfl)) ?_
        refine pl_val _ rfl rfl (val_indexArr p.1.toNat hT rfl rfl rfl rfl (by omega) (by omega) w5) ?_
        refine pl_op rfl rfl (opTo_store [.bool true] rfl rfl rfl rfl (by decide +kernel) ha4 (by rw [bools_length, ahead_length]; simp; omega) (by simp; rfl) ?_)
        have e6 : splice (bools (ahead ((ps.take j).map (·.1)))) (0 + p.1.toNat * 1) [.bool true] = bools (ahead ((ps.take (j + 1)).map (·.1))) := by
          rw [Nat.zero_add, Nat.mul_one, splice_bools _ _ _ (by rw [ahead_length]; omega), ahead_set _ hb, ← take_succ_map hp]
        rw [e6]
        have hk6 := hk4.setRow w.heap.size (bools (ahead ((ps.take (j + 1)).map (·.1)))).toArray (.inr (Nat.le_refl _))
        have ha6 := ha4.set (bools (ahead ((ps.take (j + 1)).map (·.1))))
        generalize (w5.setRow w.heap.size (bools (ahead ((ps.take (j + 1)).map (·.1)))).toArray) = w6 at *
        repeat (first | refine pl_pure hT rfl rfl rfl ?_ | refine pl_nil ?_ | refine rn_seq ?_ | refine rn_plain ?_ | refine rn_block ?_ | refine rn_inBlock ?_ | refine rn_skip ?_ | refine rn_true rfl ?_ | refine rn_false rfl ?_ | refine rn_exit rfl ?_ | refine pl_not rfl rfl ?_)
        refine pl_val (.int .i64 ((j + 1 : Nat) : Int)) rfl rfl (val_int .i64 j 1 _ rfl rfl rfl (by simp only [intOp]; rw [wrap_i64 (by omega) (by omega)]; rfl) w6) ?_
        repeat (first | refine pl_pure hT rfl rfl rfl ?_ | refine pl_nil ?_ | refine rn_seq ?_ | refine rn_plain ?_ | refine rn_block ?_ | refine rn_inBlock ?_ | refine rn_skip ?_ | refine rn_true rfl ?_ | refine rn_false rfl ?_ | refine rn_exit rfl ?_ | refine pl_not rfl rfl ?_)
        refine rn_sub ?_ (ih (ps.length - (j + 1)) _ w6 (by omega) ⟨j + 1, rfl, hlt, rfl, hk6, ha6, by rw [take_succ_map hp]; exact hc⟩)
        exact ⟨rfl, rfl, rfl, rfl, trivial⟩
  · refine pl_val (.bool false) rfl rfl (val_int .i64 _ _ _ rfl rfl rfl (by simp [intOp]; omega) w2) ?_
    repeat (first | refine pl_pure hT rfl rfl rfl ?_ | refine pl_nil ?_ | refine rn_seq ?_ | refine rn_plain ?_ | refine rn_block ?_ | refine rn_inBlock ?_ | refine rn_skip ?_ | refine rn_true rfl ?_ | refine rn_false rfl ?_ | refine rn_exit rfl ?_ | refine pl_not rfl rfl ?_)
    refine rn_ret Try.func9 (.inl ⟨_, rfl, rfl⟩) ⟨?_, hk2⟩
    rw [hc, List.drop_eq_nil_of_le hge]
    rfl
end E
end Go.Proofs.Ytcnjmjdnlhiflab
