/- The document's store: Vault's Commit and Crash. -/
import Derived.Test.YtcnjmjdnlhiflabVauA
namespace Go.Proofs.Ytcnjmjdnlhiflab
set_option maxRecDepth 20000
namespace E
open Go.Proofs

def vcells (g : Int) (P : Nat → List Int) (b : Bool) (X : Nat → List Int) : List Value := [Value.int .i64 g] ++ arr P ++ ([Value.bool b] ++ arr X)

section
variable {g : Int} {P X : Nat → List Int} {b : Bool}
theorem vcells_length (hP : Full P) (hX : Full X) : (vcells g P b X).length = 226 := by simp [vcells, arr_length hP, arr_length hX]
theorem v_setG (g' : Int) : splice (vcells g P b X) 0 [.int .i64 g'] = vcells g' P b X := by simp [vcells, splice]
theorem v_setP (hP : Full P) {P' : Nat → List Int} (hP' : Full P') : splice (vcells g P b X) 1 (arr P') = vcells g P' b X := by
  unfold vcells
  have := splice_mid [Value.int .i64 g] (arr P) ([Value.bool b] ++ arr X) (arr P') 0 (by rw [arr_length hP, arr_length hP']; decide)
  rw [splice_all (by rw [arr_length hP, arr_length hP'])] at this
  exact this
theorem v_setW (hP : Full P) (b' : Bool) : splice (vcells g P b X) 113 [.bool b'] = vcells g P b' X := by
  unfold vcells
  have := splice_mid ([Value.int .i64 g] ++ arr P) [Value.bool b] (arr X) [.bool b'] 0 (by simp)
  rw [show splice [Value.bool b] 0 [.bool b'] = [.bool b'] from rfl] at this
  simpa [arr_length hP, List.append_assoc] using this
theorem v_setX (hP : Full P) (hX : Full X) {X' : Nat → List Int} (hX' : Full X') : splice (vcells g P b X) 114 (arr X') = vcells g P b X' := by
  unfold vcells
  have := splice_mid ([Value.int .i64 g] ++ arr P ++ [Value.bool b]) (arr X) [] (arr X') 0 (by rw [arr_length hX, arr_length hX']; decide)
  rw [splice_all (by rw [arr_length hX, arr_length hX'])] at this
  simpa [arr_length hP, List.append_assoc] using this
theorem v_atP (hP : Full P) : ((vcells g P b X).drop 1).take 112 = arr P := by
  unfold vcells
  rw [List.append_assoc]
  show (arr P ++ ([Value.bool b] ++ arr X)).take 112 = _
  rw [← arr_length hP, List.take_left]
theorem v_atPp (hP : Full P) {i : Nat} (hi : i < 14) : ((vcells g P b X).drop (1 + i * 8)).take 8 = ints (P i) := by
  unfold vcells
  rw [List.append_assoc, Nat.add_comm]
  show ((arr P ++ ([Value.bool b] ++ arr X)).drop (i * 8)).take 8 = _
  rw [List.drop_append_of_le_length (by rw [arr_length hP]; omega), List.take_append_of_le_length (by rw [List.length_drop, arr_length hP]; omega)]
  exact arr_at hP hi
theorem v_atW (hP : Full P) : (vcells g P b X)[113]? = some (.bool b) := by
  unfold vcells
  rw [List.getElem?_append_right (by simp [arr_length hP])]
  simp [arr_length hP]
theorem v_atX (hP : Full P) (hX : Full X) : ((vcells g P b X).drop 114).take 112 = arr X := by
  unfold vcells
  rw [List.drop_append, List.drop_eq_nil_of_le (by simp [arr_length hP])]
  simp only [List.length_append, List.length_cons, List.length_nil, arr_length hP, List.nil_append]
  show (arr X).take 112 = _
  rw [List.take_of_length_le (by rw [arr_length hX]; exact Nat.le_refl _)]
end

def newP (ps : List Pg) (P : Nat → List Int) : Nat → List Int := fun p => (lookI ps (p : Nat)).getD (P p)
theorem newP_full {ps : List Pg} {P : Nat → List Int} (hwf : ∀ p ∈ ps, p.2.length = 8) (hP : Full P) : Full (newP ps P) := fun i => look_len hwf _ (hP i)
theorem newP_set {ps : List Pg} {k : Nat} {p : Pg} (h : ps[k]? = some p) (hi : 0 ≤ p.1) (P : Nat → List Int) : arr (setF (newP (ps.take k) P) p.1.toNat p.2) = arr (newP (ps.take (k + 1)) P) := arr_congr fun i _ => by
  simp only [setF, newP]
  rw [lookI_take h]
  by_cases e : i = p.1.toNat
  · rw [if_pos e, if_pos (by omega)]
  · rw [if_neg e, if_neg (by omega)]

section
variable {B : Nat} {w : World} {vb : Nat} {g : Int} {P X : Nat → List Int} {b : Bool} {rv : Value} {ps : List Pg}

theorem vcommit_bad (hp : Pgs B w rv ps) (hlen : ps.length < 900) (may : Int) (hc : chk ps ≠ 0) :
    Ret Try.prog 21 [.pointer (some ⟨vb, 0, none⟩), rv, .int .i64 may] w fun v w' => v = .tuple #[.bool false, .int .i64 (chk ps)] ∧ Keep [] w w' := by
  refine ret_of 70 Try.func21 rfl rfl (by simp) ?_
  repeat (first | refine pl_pure hT rfl rfl rfl ?_ | refine pl_nil ?_ | refine rn_seq ?_ | refine rn_plain ?_ | refine rn_block ?_ | refine rn_inBlock ?_ | refine rn_skip ?_ | refine rn_true rfl ?_ | refine rn_false rfl ?_ | refine rn_exit rfl ?_ | refine pl_not rfl rfl ?_)
  refine pl_op rfl rfl (opTo_call rfl rfl rfl rfl (by decide +kernel) ((fault_ret hp (by omega)).mono ?_))
  rintro v w1 ⟨rfl, hk1⟩
  repeat (first | refine pl_pure hT rfl rfl rfl ?_ | refine pl_nil ?_ | refine rn_seq ?_ | refine rn_plain ?_ | refine rn_block ?_ | refine rn_inBlock ?_ | refine rn_skip ?_ | refine rn_true rfl ?_ | refine rn_false rfl ?_ | refine rn_exit rfl ?_ | refine pl_not rfl rfl ?_)
  refine pl_val (.bool true) rfl rfl (val_int .i64 _ 0 _ rfl rfl rfl (by simp [intOp, hc]) w1) ?_
  repeat (first | refine pl_pure hT rfl rfl rfl ?_ | refine pl_nil ?_ | refine rn_seq ?_ | refine rn_plain ?_ | refine rn_block ?_ | refine rn_inBlock ?_ | refine rn_skip ?_ | refine rn_true rfl ?_ | refine rn_false rfl ?_ | refine rn_exit rfl ?_ | refine pl_not rfl rfl ?_)
  exact rn_ret Try.func21 (.inr (.inr (.inr (.inr ⟨_, _, _, _, rfl, rfl, rfl, rfl⟩)))) ⟨rfl, hk1⟩

theorem vcommit_ret (hv : Blk w vb (vcells g P b X) 48) (hP : Full P) (hX : Full X) (hg0 : 0 ≤ g) (hg1 : g < 1000000) (hp : Pgs B w rv ps) (hlen : ps.length < 900) (may : Int) (hc : chk ps = 0) :
    Ret Try.prog 21 [.pointer (some ⟨vb, 0, none⟩), rv, .int .i64 may] w fun v w' => v = .tuple #[.bool (decide (may < 0 ∨ may > (ps.length + 4 : Nat))), .int .i64 0] ∧ Keep [vb] w w' ∧
      Blk w' vb (if may < 0 ∨ may > (ps.length + 4 : Nat) then vcells (g + 1) (newP ps P) b X else vcells g P (decide (may = (ps.length + 4 : Nat))) (newP ps P)) 48 := by
  refine ret_of 70 Try.func21 rfl rfl (by simp) ?_
  obtain ⟨ra, rcap, hrv⟩ := hp.form
  repeat (first | refine pl_pure hT rfl rfl rfl ?_ | refine pl_nil ?_ | refine rn_seq ?_ | refine rn_plain ?_ | refine rn_block ?_ | refine rn_inBlock ?_ | refine rn_skip ?_ | refine rn_true rfl ?_ | refine rn_false rfl ?_ | refine rn_exit rfl ?_ | refine pl_not rfl rfl ?_)
  refine pl_op rfl rfl (opTo_call rfl rfl rfl rfl (by decide +kernel) ((fault_ret hp (by omega)).mono ?_))
  rintro v w1 ⟨rfl, hk1⟩
  rw [hc]
  have hv1 := hk1.blk hv (by simp)
  repeat (first | refine pl_pure hT rfl rfl rfl ?_ | refine pl_nil ?_ | refine rn_seq ?_ | refine rn_plain ?_ | refine rn_block ?_ | refine rn_inBlock ?_ | refine rn_skip ?_ | refine rn_true rfl ?_ | refine rn_false rfl ?_ | refine rn_exit rfl ?_ | refine pl_not rfl rfl ?_)
  refine pl_val (.bool false) rfl rfl (val_int .i64 _ 0 _ rfl rfl rfl rfl w1) ?_
  repeat (first | refine pl_pure hT rfl rfl rfl ?_ | refine pl_nil ?_ | refine rn_seq ?_ | refine rn_plain ?_ | refine rn_block ?_ | refine rn_inBlock ?_ | refine rn_skip ?_ | refine rn_true rfl ?_ | refine rn_false rfl ?_ | refine rn_exit rfl ?_ | refine pl_not rfl rfl ?_)
  refine pl_val (.agg (arr P).toArray) rfl rfl (val_load _ hT rfl rfl (by rw [arr_length hP]; rfl) (hv1.range (by rw [arr_length hP]; exact v_atP hP))) ?_
  refine pl_op rfl rfl (opTo_alloc _ rfl zero_arr ?_)
  have hz : Full fun _ : Nat => z8 := fun _ => rfl
  have hk2 : Keep [] w1 (w1.alloc (.cells (arr fun _ => z8).toArray 38)) := (Keep.refl _ _).alloc _
  have hx2 := Blk.new w1 (arr fun _ => z8) 38
  generalize (w1.alloc (.cells (arr fun _ => z8).toArray 38)) = w2 at *
  repeat (first | refine pl_pure hT rfl rfl rfl ?_ | refine pl_nil ?_ | refine rn_seq ?_ | refine rn_plain ?_ | refine rn_block ?_ | refine rn_inBlock ?_ | refine rn_skip ?_ | refine rn_true rfl ?_ | refine rn_false rfl ?_ | refine rn_exit rfl ?_ | refine pl_not rfl rfl ?_)
  refine pl_op rfl rfl (opTo_store (arr P) rfl rfl rfl rfl (by rw [arr_length hP]; decide +kernel) hx2 (by rw [arr_length hP, arr_length hz]; decide) (arr_one _) ?_)
  rw [splice_all (by rw [arr_length hP, arr_length hz])]
  have hk3 := hk2.setRow w1.heap.size (arr P).toArray (.inr (Nat.le_refl _))
  have hx3 := hx2.set (arr P)
  generalize (w2.setRow w1.heap.size (arr P).toArray) = w3 at *
  have hv3 := hk3.blk hv1 (by simp)
  have hk3 := hk1.tr0 hk3
  have hle := hk1.size
  generalize w1.heap.size = x at *
  clear hk2 hx2 hk1 hv1
  repeat (first | refine pl_pure hT rfl rfl rfl ?_ | refine pl_nil ?_ | refine rn_seq ?_ | refine rn_plain ?_ | refine rn_block ?_ | refine rn_inBlock ?_ | refine rn_skip ?_ | refine rn_true rfl ?_ | refine rn_false rfl ?_ | refine rn_exit rfl ?_ | refine pl_not rfl rfl ?_)
  refine rn_ind (fun q σ w' => ∃ k, q = ps.length - k ∧ k ≤ ps.length ∧ σ = [(0, .pointer (some ⟨vb, 0, none⟩)), (1, rv), (2, .int .i64 may), (9, .pointer (some ⟨x, 0, none⟩)), (10, .int .i64 (k : Nat))] ∧
      Keep [] w w' ∧ Blk w' vb (vcells g P b X) 48 ∧ Blk w' x (arr (newP (ps.take k) P)) 38)
    (ps.length - 0) _ ?_ ⟨0, rfl, Nat.zero_le _, rfl, hk3, hv3, hx3⟩ ?_
  · exact ⟨rfl, rfl, rfl, rfl, rfl, trivial⟩
  clear hk3 hv3 hx3
  rintro q σ w3 ih ⟨k, hq, hk, rfl, hk3, hv3, hx3⟩
  repeat (first | refine pl_pure hT rfl rfl rfl ?_ | refine pl_nil ?_ | refine rn_seq ?_ | refine rn_plain ?_ | refine rn_block ?_ | refine rn_inBlock ?_ | refine rn_skip ?_ | refine rn_true rfl ?_ | refine rn_false rfl ?_ | refine rn_exit rfl ?_ | refine pl_not rfl rfl ?_)
  refine pl_val (.int .i64 ps.length) rfl rfl (val_pure hT (by rw [hrv]; rfl) w3) ?_
  rcases Nat.lt_or_ge k ps.length with hlt | hge
  · refine pl_val (.bool true) rfl rfl (val_int .i64 _ _ _ rfl rfl rfl (by simp [intOp]; omega) w3) ?_
    obtain ⟨p, hpk⟩ : ∃ p, ps[k]? = some p := ⟨_, List.getElem?_eq_getElem hlt⟩
    have hpm := List.mem_of_getElem? hpk
    have h8 := hp.wf p hpm
    have hi : 0 ≤ p.1 ∧ p.1 < 14 := by simpa [hasP] using chkFrom_ok hc p hpm
    obtain ⟨pb, po, pcap', hpv', hpb, hpr⟩ := (hp.keep hk3 (by simp)).at hpk
    have hfull : Full (newP (ps.take k) P) := newP_full (fun p hp' => hp.wf p (List.mem_of_mem_take hp')) hP
    repeat (first | refine pl_pure hT rfl rfl rfl ?_ | refine pl_nil ?_ | refine rn_seq ?_ | refine rn_plain ?_ | refine rn_block ?_ | refine rn_inBlock ?_ | refine rn_skip ?_ | refine rn_true rfl ?_ | refine rn_false rfl ?_ | refine rn_exit rfl ?_ | refine pl_not rfl rfl ?_)
    have hS0 : w3.drew.rangeAt pb (po + k * 9) (pcell p) := hpr
    refine rn_draw (fun w' => w'.rangeAt pb (po + k * 9) (pcell p)) [11] hMix ?_
    refine dr_pure 0 hT rfl (by decide +kernel) rfl rfl rfl ?_
    refine dr_pure 1 hT rfl (by decide +kernel) rfl rfl rfl ?_
    refine dr_any 2 _ rfl (by decide +kernel) rfl rfl (fun w' => val_index k hT rfl (by rw [hpv']; rfl) rfl rfl rfl hlt w') ?_
    refine dr_pure 3 hT rfl (by decide +kernel) rfl rfl rfl ?_
    refine dr_val 4 (.int .i64 p.1) rfl (by decide +kernel) rfl rfl (fun w' hk => val_load1 hT rfl rfl rfl (hk 0 _ rfl)) hS0 ?_
    refine dr_pure 5 hT rfl (by decide +kernel) rfl rfl rfl ?_
    refine dr_pure 6 hT rfl (by decide +kernel) rfl rfl rfl ?_
    refine dr_any 7 _ rfl (by decide +kernel) rfl rfl (fun w' => val_index k hT rfl (by rw [hpv']; rfl) rfl rfl rfl hlt w') ?_
    refine dr_pure 8 hT rfl (by decide +kernel) rfl rfl rfl ?_
    refine dr_val 9 (.agg (ints p.2).toArray) rfl (by decide +kernel) rfl rfl (fun w' hk => val_load _ hT rfl rfl (by rw [ints_length, h8]; rfl) (range_sub hk 1 (by simp [pcell]))) hS0 ?_
    refine dr_any 10 _ rfl (by decide +kernel) rfl rfl (fun w' => val_indexArr p.1.toNat hT rfl rfl rfl rfl (by omega) (by omega) w') ?_
    refine dr_op 11 rfl (by decide +kernel) rfl rfl (opTo_store (ints p.2) rfl rfl rfl rfl (by rw [ints_length, h8]; decide +kernel) hx3.drew (by rw [ints_length, h8, arr_length hfull]; omega) (ints_one _) ⟨fun hn => absurd (by simp) hn, ?_⟩)
    rw [show splice (arr (newP (ps.take k) P)) (0 + p.1.toNat * 8) (ints p.2) = arr (newP (ps.take (k + 1)) P) by
      rw [Nat.zero_add, arr_set hfull (by omega) h8, newP_set hpk hi.1]]
    have hx4 := hx3.drew.set (arr (newP (ps.take (k + 1)) P))
    have hv4 := hv3.drew.other (arr (newP (ps.take (k + 1)) P)).toArray (c := x) (Blk.ne hv3 hx3 (by decide))
    have hk4 := (hk3.drew).setRow x (arr (newP (ps.take (k + 1)) P)).toArray (.inr hle)
    generalize (w3.drew.setRow x (arr (newP (ps.take (k + 1)) P)).toArray) = w4 at *
    refine dr_done (by decide +kernel) ?_
    repeat (first | refine pl_pure hT rfl rfl rfl ?_ | refine pl_nil ?_ | refine rn_seq ?_ | refine rn_plain ?_ | refine rn_block ?_ | refine rn_inBlock ?_ | refine rn_skip ?_ | refine rn_true rfl ?_ | refine rn_false rfl ?_ | refine rn_exit rfl ?_ | refine pl_not rfl rfl ?_)
    refine pl_val (.int .i64 ((k + 1 : Nat) : Int)) rfl rfl (val_int .i64 k 1 _ rfl rfl rfl (by simp only [intOp]; rw [wrap_i64 (by omega) (by omega)]; rfl) w4) ?_
    repeat (first | refine pl_pure hT rfl rfl rfl ?_ | refine pl_nil ?_ | refine rn_seq ?_ | refine rn_plain ?_ | refine rn_block ?_ | refine rn_inBlock ?_ | refine rn_skip ?_ | refine rn_true rfl ?_ | refine rn_false rfl ?_ | refine rn_exit rfl ?_ | refine pl_not rfl rfl ?_)
    refine rn_sub ?_ (ih (ps.length - (k + 1)) _ w4 (by omega) ⟨k + 1, rfl, hlt, rfl, hk4, hv4, hx4⟩)
    exact ⟨rfl, rfl, rfl, rfl, rfl, trivial⟩
  refine pl_val (.bool false) rfl rfl (val_int .i64 _ _ _ rfl rfl rfl (by simp [intOp]; omega) w3) ?_
  rw [List.take_of_length_le hge] at hx3
  clear ih
  have hN : Full (newP ps P) := newP_full hp.wf hP
  have hvl := vcells_length (g := g) (b := b) hP hX
  repeat (first | refine pl_pure hT rfl rfl rfl ?_ | refine pl_nil ?_ | refine rn_seq ?_ | refine rn_plain ?_ | refine rn_block ?_ | refine rn_inBlock ?_ | refine rn_skip ?_ | refine rn_true rfl ?_ | refine rn_false rfl ?_ | refine rn_exit rfl ?_ | refine pl_not rfl rfl ?_)
  refine pl_val (.int .i64 ps.length) rfl rfl (val_pure hT (by rw [hrv]; rfl) w3) ?_
  refine pl_val (.int .i64 ((ps.length + 2 : Nat) : Int)) rfl rfl (val_int .i64 ps.length 2 _ rfl rfl rfl (by simp only [intOp]; rw [wrap_i64 (by omega) (by omega)]; rfl) w3) ?_
  refine pl_val (.int .i64 ((ps.length + 4 : Nat) : Int)) rfl rfl (val_int .i64 ((ps.length + 2 : Nat) : Int) 2 _ rfl rfl rfl (by simp only [intOp]; rw [wrap_i64 (by omega) (by omega)]; rfl) w3) ?_
  repeat (first | refine pl_pure hT rfl rfl rfl ?_ | refine pl_nil ?_ | refine rn_inBlock ?_ | refine rn_skip ?_ | refine rn_true rfl ?_ | refine rn_false rfl ?_ | refine rn_exit rfl ?_)
  refine rn_seq ?_
  refine rn_seq ?_
  refine rn_with (fun σ w' => w' = w3 ∧ σ = [(0, .pointer (some ⟨vb, 0, none⟩)), (2, .int .i64 may), (9, .pointer (some ⟨x, 0, none⟩)), (11, .int .i64 ((ps.length + 4 : Nat) : Int)), (48, .bool (decide (may < 0 ∨ may > (ps.length + 4 : Nat))))]) ?_ ?_
  · rintro σ w4 ⟨rfl, rfl⟩
    by_cases hdn : may < 0 ∨ may > (ps.length + 4 : Nat)
    · rw [decide_eq_true hdn, if_pos hdn]
      repeat (first | refine pl_pure hT rfl rfl rfl ?_ | refine pl_nil ?_ | refine rn_seq ?_ | refine rn_plain ?_ | refine rn_block ?_ | refine rn_inBlock ?_ | refine rn_skip ?_ | refine rn_true rfl ?_ | refine rn_false rfl ?_ | refine rn_exit rfl ?_ | refine pl_not rfl rfl ?_)
      refine pl_val (.int .i64 g) rfl rfl (val_load1 hT rfl rfl rfl (hv3.cell rfl)) ?_
      refine pl_val (.int .i64 (g + 1)) rfl rfl (val_int .i64 _ 1 _ rfl rfl rfl (by simp only [intOp]; rw [wrap_i64 (by omega) (by omega)]) w4) ?_
      repeat (first | refine pl_pure hT rfl rfl rfl ?_ | refine pl_nil ?_ | refine rn_seq ?_ | refine rn_plain ?_ | refine rn_block ?_ | refine rn_inBlock ?_ | refine rn_skip ?_ | refine rn_true rfl ?_ | refine rn_false rfl ?_ | refine rn_exit rfl ?_ | refine pl_not rfl rfl ?_)
      refine pl_op rfl rfl (opTo_store [.int .i64 (g + 1)] rfl rfl rfl rfl (by kernel_rfl) hv3 (by rw [hvl]; simp) (by simp; rfl) ?_)
      rw [show splice (vcells g P b X) (0 + 0) [.int .i64 (g + 1)] = vcells (g + 1) P b X from v_setG _]
      have hv5 := hv3.set (vcells (g + 1) P b X)
      have hk5 : Keep [vb] w (w4.setRow vb (vcells (g + 1) P b X).toArray) := (hk3.of0).setRow _ _ (.inl (by simp))
      have hx5 := hx3.other (vcells (g + 1) P b X).toArray (c := vb) (Ne.symm (Blk.ne hv3 hx3 (by decide)))
      generalize (w4.setRow vb (vcells (g + 1) P b X).toArray) = w5 at *
      repeat (first | refine pl_pure hT rfl rfl rfl ?_ | refine pl_nil ?_ | refine rn_seq ?_ | refine rn_plain ?_ | refine rn_block ?_ | refine rn_inBlock ?_ | refine rn_skip ?_ | refine rn_true rfl ?_ | refine rn_false rfl ?_ | refine rn_exit rfl ?_ | refine pl_not rfl rfl ?_)
      refine pl_val (.agg (arr (newP ps P)).toArray) rfl rfl (val_load _ hT rfl rfl (by rw [arr_length hN]; rfl) (hx5.range (by simp))) ?_
      repeat (first | refine pl_pure hT rfl rfl rfl ?_ | refine pl_nil ?_ | refine rn_seq ?_ | refine rn_plain ?_ | refine rn_block ?_ | refine rn_inBlock ?_ | refine rn_skip ?_ | refine rn_true rfl ?_ | refine rn_false rfl ?_ | refine rn_exit rfl ?_ | refine pl_not rfl rfl ?_)
      refine pl_op rfl rfl (opTo_store (arr (newP ps P)) rfl rfl rfl rfl (by rw [arr_length hN]; decide +kernel) hv5 (by rw [arr_length hN, vcells_length hP hX]; decide) (arr_one _) ?_)
      rw [show splice (vcells (g + 1) P b X) (0 + 1) (arr (newP ps P)) = vcells (g + 1) (newP ps P) b X from v_setP hP hN]
      repeat (first | refine pl_pure hT rfl rfl rfl ?_ | refine pl_nil ?_ | refine rn_seq ?_ | refine rn_plain ?_ | refine rn_block ?_ | refine rn_inBlock ?_ | refine rn_skip ?_ | refine rn_true rfl ?_ | refine rn_false rfl ?_ | refine rn_exit rfl ?_ | refine pl_not rfl rfl ?_)
      exact rn_ret Try.func21 (.inr (.inr (.inr (.inr ⟨_, _, _, _, rfl, rfl, rfl, rfl⟩)))) ⟨rfl, hk5.setRow _ _ (.inl (by simp)), hv5.set _⟩
    · rw [decide_eq_false hdn, if_neg hdn]
      repeat (first | refine pl_pure hT rfl rfl rfl ?_ | refine pl_nil ?_ | refine rn_seq ?_ | refine rn_plain ?_ | refine rn_block ?_ | refine rn_inBlock ?_ | refine rn_skip ?_ | refine rn_true rfl ?_ | refine rn_false rfl ?_ | refine rn_exit rfl ?_ | refine pl_not rfl rfl ?_)
      refine pl_val (.bool (decide (may = (ps.length + 4 : Nat)))) rfl rfl (val_int .i64 _ _ _ rfl rfl rfl (by simp only [intOp]; congr 2) w4) ?_
      repeat (first | refine pl_pure hT rfl rfl rfl ?_ | refine pl_nil ?_ | refine rn_seq ?_ | refine rn_plain ?_ | refine rn_block ?_ | refine rn_inBlock ?_ | refine rn_skip ?_ | refine rn_true rfl ?_ | refine rn_false rfl ?_ | refine rn_exit rfl ?_ | refine pl_not rfl rfl ?_)
      refine pl_op rfl rfl (opTo_store [.bool (decide (may = (ps.length + 4 : Nat)))] rfl rfl rfl rfl (by kernel_rfl) hv3 (by rw [hvl]; simp) (by simp; rfl) ?_)
      rw [show splice (vcells g P b X) (0 + 113) [.bool (decide (may = (ps.length + 4 : Nat)))] = vcells g P (decide (may = (ps.length + 4 : Nat))) X from v_setW hP _]
      generalize decide (may = (ps.length + 4 : Nat)) = b' at *
      have hv5 := hv3.set (vcells g P b' X)
      have hk5 : Keep [vb] w (w4.setRow vb (vcells g P b' X).toArray) := (hk3.of0).setRow _ _ (.inl (by simp))
      have hx5 := hx3.other (vcells g P b' X).toArray (c := vb) (Ne.symm (Blk.ne hv3 hx3 (by decide)))
      generalize (w4.setRow vb (vcells g P b' X).toArray) = w5 at *
      repeat (first | refine pl_pure hT rfl rfl rfl ?_ | refine pl_nil ?_ | refine rn_seq ?_ | refine rn_plain ?_ | refine rn_block ?_ | refine rn_inBlock ?_ | refine rn_skip ?_ | refine rn_true rfl ?_ | refine rn_false rfl ?_ | refine rn_exit rfl ?_ | refine pl_not rfl rfl ?_)
      refine pl_val (.agg (arr (newP ps P)).toArray) rfl rfl (val_load _ hT rfl rfl (by rw [arr_length hN]; rfl) (hx5.range (by simp))) ?_
      repeat (first | refine pl_pure hT rfl rfl rfl ?_ | refine pl_nil ?_ | refine rn_seq ?_ | refine rn_plain ?_ | refine rn_block ?_ | refine rn_inBlock ?_ | refine rn_skip ?_ | refine rn_true rfl ?_ | refine rn_false rfl ?_ | refine rn_exit rfl ?_ | refine pl_not rfl rfl ?_)
      refine pl_op rfl rfl (opTo_store (arr (newP ps P)) rfl rfl rfl rfl (by rw [arr_length hN]; decide +kernel) hv5 (by rw [arr_length hN, vcells_length hP hX]; decide) (arr_one _) ?_)
      rw [show splice (vcells g P b' X) (0 + 114) (arr (newP ps P)) = vcells g P b' (newP ps P) from v_setX hP hX hN]
      repeat (first | refine pl_pure hT rfl rfl rfl ?_ | refine pl_nil ?_ | refine rn_seq ?_ | refine rn_plain ?_ | refine rn_block ?_ | refine rn_inBlock ?_ | refine rn_skip ?_ | refine rn_true rfl ?_ | refine rn_false rfl ?_ | refine rn_exit rfl ?_ | refine pl_not rfl rfl ?_)
      exact rn_ret Try.func21 (.inr (.inr (.inr (.inr ⟨_, _, _, _, rfl, rfl, rfl, rfl⟩)))) ⟨rfl, hk5.setRow _ _ (.inl (by simp)), hv5.set _⟩
  intro hjoin
  refine rn_plain ?_
  refine pl_pure hT rfl rfl rfl ?_
  by_cases h0 : may < 0
  · refine pl_val (.bool true) rfl rfl (val_int .i64 may 0 _ rfl rfl rfl (by simp [intOp, h0]) w3) ?_
    repeat (first | refine pl_pure hT rfl rfl rfl ?_ | refine pl_not rfl rfl ?_ | refine pl_nil ?_)
    refine rn_sub ?_ (hjoin _ w3 ⟨rfl, rfl⟩)
    rw [decide_eq_true (.inl h0)]
    exact ⟨rfl, rfl, rfl, rfl, rfl, trivial⟩
  · refine pl_val (.bool false) rfl rfl (val_int .i64 may 0 _ rfl rfl rfl (by simp [intOp, h0]) w3) ?_
    repeat (first | refine pl_pure hT rfl rfl rfl ?_)
    refine pl_val (.bool (decide (may > (ps.length + 4 : Nat)))) rfl rfl (val_int .i64 _ _ _ rfl rfl rfl (by simp only [intOp]) w3) ?_
    repeat (first | refine pl_pure hT rfl rfl rfl ?_ | refine pl_nil ?_)
    refine rn_sub ?_ (hjoin _ w3 ⟨rfl, rfl⟩)
    rw [show decide (may < 0 ∨ may > (ps.length + 4 : Nat)) = decide (may > (ps.length + 4 : Nat)) by simp [h0]]
    exact ⟨rfl, rfl, rfl, rfl, rfl, trivial⟩

theorem mask0 (mask : Int) : (IntKind.u64.wrap (BitVec.ofInt IntKind.u64.bits mask &&& BitVec.ofInt IntKind.u64.bits 1).toNat == 1) = maskB mask 0 := by
  unfold maskB
  rw [show (2 : Int) ^ (0 % 64) = 1 from rfl, Int.fdiv_one]
  rfl

theorem vcrash_ret (hv : Blk w vb (vcells g P b X) 48) (hP : Full P) (hX : Full X) (hg0 : 0 ≤ g) (hg1 : g < 1000000) (mask : Int) :
    Ret Try.prog 23 [.pointer (some ⟨vb, 0, none⟩), .int .u64 mask] w fun v w' => v = .tuple #[] ∧ Keep [vb] w w' ∧
      Blk w' vb (if b = true ∧ maskB mask 0 = true then vcells (g + 1) X false X else vcells g P false X) 48 := by
  refine ret_of 30 Try.func23 rfl rfl (by simp) ?_
  have hvl := vcells_length (g := g) (b := b) hP hX
  repeat (first | refine pl_pure hT rfl rfl rfl ?_ | refine pl_nil ?_ | refine rn_seq ?_ | refine rn_plain ?_ | refine rn_block ?_ | refine rn_inBlock ?_ | refine rn_skip ?_ | refine rn_true rfl ?_ | refine rn_false rfl ?_ | refine rn_exit rfl ?_ | refine pl_not rfl rfl ?_)
  refine pl_val (.bool b) rfl rfl (val_load1 hT rfl rfl rfl (hv.cell (by rw [Nat.zero_add]; exact v_atW hP))) ?_
  cases b with
  | false =>
    rw [if_neg (by simp)]
    repeat (first | refine pl_pure hT rfl rfl rfl ?_ | refine pl_nil ?_ | refine rn_seq ?_ | refine rn_plain ?_ | refine rn_block ?_ | refine rn_inBlock ?_ | refine rn_skip ?_ | refine rn_true rfl ?_ | refine rn_false rfl ?_ | refine rn_exit rfl ?_ | refine pl_not rfl rfl ?_)
    refine pl_op rfl rfl (opTo_store [.bool false] rfl rfl rfl rfl (by kernel_rfl) hv (by rw [hvl]; simp) (by simp; rfl) ?_)
    rw [show splice (vcells g P false X) (0 + 113) [.bool false] = vcells g P false X from v_setW hP _]
    repeat (first | refine pl_pure hT rfl rfl rfl ?_ | refine pl_nil ?_ | refine rn_seq ?_ | refine rn_plain ?_ | refine rn_block ?_ | refine rn_inBlock ?_ | refine rn_skip ?_ | refine rn_true rfl ?_ | refine rn_false rfl ?_ | refine rn_exit rfl ?_ | refine pl_not rfl rfl ?_)
    exact rn_end Try.func23 (.inr (.inl ⟨rfl, rfl⟩)) ⟨rfl, (Keep.refl _ _).setRow _ _ (.inl (by simp)), hv.set _⟩
  | true =>
    repeat (first | refine pl_pure hT rfl rfl rfl ?_ | refine pl_nil ?_ | refine rn_seq ?_ | refine rn_plain ?_ | refine rn_block ?_ | refine rn_inBlock ?_ | refine rn_skip ?_ | refine rn_true rfl ?_ | refine rn_false rfl ?_ | refine rn_exit rfl ?_ | refine pl_not rfl rfl ?_)
    refine pl_val _ rfl rfl (val_int .u64 _ 1 _ rfl rfl rfl rfl w) ?_
    refine pl_val (.bool (maskB mask 0)) rfl rfl (val_int .u64 _ 1 _ rfl rfl rfl (by simp only [intOp]; rw [mask0]) w) ?_
    cases hm : maskB mask 0 with
    | false =>
      rw [if_neg (by simp)]
      repeat (first | refine pl_pure hT rfl rfl rfl ?_ | refine pl_nil ?_ | refine rn_seq ?_ | refine rn_plain ?_ | refine rn_block ?_ | refine rn_inBlock ?_ | refine rn_skip ?_ | refine rn_true rfl ?_ | refine rn_false rfl ?_ | refine rn_exit rfl ?_ | refine pl_not rfl rfl ?_)
      refine pl_op rfl rfl (opTo_store [.bool false] rfl rfl rfl rfl (by kernel_rfl) hv (by rw [hvl]; simp) (by simp; rfl) ?_)
      rw [show splice (vcells g P true X) (0 + 113) [.bool false] = vcells g P false X from v_setW hP _]
      repeat (first | refine pl_pure hT rfl rfl rfl ?_ | refine pl_nil ?_ | refine rn_seq ?_ | refine rn_plain ?_ | refine rn_block ?_ | refine rn_inBlock ?_ | refine rn_skip ?_ | refine rn_true rfl ?_ | refine rn_false rfl ?_ | refine rn_exit rfl ?_ | refine pl_not rfl rfl ?_)
      exact rn_end Try.func23 (.inr (.inl ⟨rfl, rfl⟩)) ⟨rfl, (Keep.refl _ _).setRow _ _ (.inl (by simp)), hv.set _⟩
    | true =>
      rw [if_pos (by simp)]
      repeat (first | refine pl_pure hT rfl rfl rfl ?_ | refine pl_nil ?_ | refine rn_seq ?_ | refine rn_plain ?_ | refine rn_block ?_ | refine rn_inBlock ?_ | refine rn_skip ?_ | refine rn_true rfl ?_ | refine rn_false rfl ?_ | refine rn_exit rfl ?_ | refine pl_not rfl rfl ?_)
      refine pl_val (.int .i64 g) rfl rfl (val_load1 hT rfl rfl rfl (hv.cell rfl)) ?_
      refine pl_val (.int .i64 (g + 1)) rfl rfl (val_int .i64 _ 1 _ rfl rfl rfl (by simp only [intOp]; rw [wrap_i64 (by omega) (by omega)]) w) ?_
      repeat (first | refine pl_pure hT rfl rfl rfl ?_ | refine pl_nil ?_ | refine rn_seq ?_ | refine rn_plain ?_ | refine rn_block ?_ | refine rn_inBlock ?_ | refine rn_skip ?_ | refine rn_true rfl ?_ | refine rn_false rfl ?_ | refine rn_exit rfl ?_ | refine pl_not rfl rfl ?_)
      refine pl_op rfl rfl (opTo_store [.int .i64 (g + 1)] rfl rfl rfl rfl (by kernel_rfl) hv (by rw [hvl]; simp) (by simp; rfl) ?_)
      rw [show splice (vcells g P true X) (0 + 0) [.int .i64 (g + 1)] = vcells (g + 1) P true X from v_setG _]
      have hv5 := hv.set (vcells (g + 1) P true X)
      have hk5 : Keep [vb] w (w.setRow vb (vcells (g + 1) P true X).toArray) := (Keep.refl _ _).setRow _ _ (.inl (by simp))
      generalize (w.setRow vb (vcells (g + 1) P true X).toArray) = w5 at *
      repeat (first | refine pl_pure hT rfl rfl rfl ?_ | refine pl_nil ?_ | refine rn_seq ?_ | refine rn_plain ?_ | refine rn_block ?_ | refine rn_inBlock ?_ | refine rn_skip ?_ | refine rn_true rfl ?_ | refine rn_false rfl ?_ | refine rn_exit rfl ?_ | refine pl_not rfl rfl ?_)
      refine pl_val (.agg (arr X).toArray) rfl rfl (val_load _ hT rfl rfl (by rw [arr_length hX]; rfl) (hv5.range (by rw [arr_length hX]; exact v_atX hP hX))) ?_
      repeat (first | refine pl_pure hT rfl rfl rfl ?_ | refine pl_nil ?_ | refine rn_seq ?_ | refine rn_plain ?_ | refine rn_block ?_ | refine rn_inBlock ?_ | refine rn_skip ?_ | refine rn_true rfl ?_ | refine rn_false rfl ?_ | refine rn_exit rfl ?_ | refine pl_not rfl rfl ?_)
      refine pl_op rfl rfl (opTo_store (arr X) rfl rfl rfl rfl (by rw [arr_length hX]; decide +kernel) hv5 (by rw [arr_length hX, vcells_length hP hX]; decide) (arr_one _) ?_)
      rw [show splice (vcells (g + 1) P true X) (0 + 1) (arr X) = vcells (g + 1) X true X from v_setP hP hX]
      have hv6 := hv5.set (vcells (g + 1) X true X)
      have hk6 := hk5.setRow vb (vcells (g + 1) X true X).toArray (.inl (by simp))
      generalize (w5.setRow vb (vcells (g + 1) X true X).toArray) = w6 at *
      repeat (first | refine pl_pure hT rfl rfl rfl ?_ | refine pl_nil ?_ | refine rn_seq ?_ | refine rn_plain ?_ | refine rn_block ?_ | refine rn_inBlock ?_ | refine rn_skip ?_ | refine rn_true rfl ?_ | refine rn_false rfl ?_ | refine rn_exit rfl ?_ | refine pl_not rfl rfl ?_)
      refine pl_op rfl rfl (opTo_store [.bool false] rfl rfl rfl rfl (by kernel_rfl) hv6 (by rw [vcells_length hX hX]; simp) (by simp; rfl) ?_)
      rw [show splice (vcells (g + 1) X true X) (0 + 113) [.bool false] = vcells (g + 1) X false X from v_setW hX _]
      repeat (first | refine pl_pure hT rfl rfl rfl ?_ | refine pl_nil ?_ | refine rn_seq ?_ | refine rn_plain ?_ | refine rn_block ?_ | refine rn_inBlock ?_ | refine rn_skip ?_ | refine rn_true rfl ?_ | refine rn_false rfl ?_ | refine rn_exit rfl ?_ | refine pl_not rfl rfl ?_)
      exact rn_end Try.func23 (.inr (.inl ⟨rfl, rfl⟩)) ⟨rfl, hk6.setRow _ _ (.inl (by simp)), hv6.set _⟩
end
end E
end Go.Proofs.Ytcnjmjdnlhiflab
