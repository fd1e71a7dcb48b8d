/- What MemoryDoes keeps beside the memory: the boxes of its variables, the document's store; the contracts of word and of its closure. -/
import Derived.Test.YtcnjmjdnlhiflabMoD
import Derived.Test.YtcnjmjdnlhiflabVauB
namespace Go.Proofs.Ytcnjmjdnlhiflab
set_option maxRecDepth 20000
namespace E
open Go.Proofs

/-- The blocks of fp are of these types alone. -/
def Off (w : World) (fp : List Nat) (ts : List Nat) : Prop := ∀ k ∈ fp, ∀ L e, Blk w k L e → ts.contains e = true
theorem Off.one {w : World} {b e : Nat} {L : List Value} (hb : Blk w b L e) : Off w [b] [e] := fun k hk L' e' hb' => by
  simp at hk
  subst hk
  unfold Blk at hb hb'
  rw [hb] at hb'
  simp at hb'
  simp [hb'.2]
theorem Off.disk {B : Nat} {w : World} {d : Nat} {S : List Int} {L : List Wr} {wv : Value} (h : DiskV B w d S L wv) : Off w (fpD d wv) [73, 104] := fun k hk L e hb => by
  rcases fpD_typ h k hk L e hb with rfl | rfl <;> decide
theorem Off.cons {w : World} {b e : Nat} {L : List Value} {fp ts : List Nat} (hb : Blk w b L e) (h : Off w fp ts) : Off w (b :: fp) (e :: ts) := fun k hk L' e' hb' => by
  rcases List.mem_cons.1 hk with rfl | hk
  · have := Off.one hb k (by simp) L' e' hb'
    simp at this
    simp [this]
  · have := h k hk L' e' hb'
    simp at this
    simp [this]
theorem Keep.typ {fp ts : List Nat} {w w' : World} (hk : Keep fp w w') (ho : Off w fp ts) {b e : Nat} {L : List Value} (hb : Blk w b L e) (he : ts.contains e = false) : Blk w' b L e := hk.blk hb fun hm => by
  have := ho b hm L e hb
  rw [he] at this
  cases this
theorem keep_row {w : World} {b : Nat} (X : Array Value) : Keep [b] w (w.setRow b X) := (Keep.refl _ _).setRow _ _ (.inl (by simp))

/-- The places of the variables. -/
structure Cfg where
  d : Nat
  vb : Nat
  bd : Nat
  bv : Nat
  bm : Nat
  bn : Nat
  bt : Nat
  g : Nat

structure Fx (w : World) (c : Cfg) (m : Nat) (W : List Int) (D : List Bool) (gen : Int) (P X : Nat → List Int) (b : Bool) : Prop where
  boxd : Blk w c.bd [.pointer (some ⟨c.d, 0, none⟩)] 30
  boxv : Blk w c.bv [.pointer (some ⟨c.vb, 0, none⟩)] 46
  boxm : Blk w c.bm [.pointer (some ⟨m, 0, none⟩)] 49
  boxn : Blk w c.bn [.slice (some ⟨c.g, 0, none⟩) 112 112] 51
  dirt : Blk w c.bt (bools D) 52
  now : Blk w c.g (ints W) 2
  vault : Blk w c.vb (vcells gen P b X) 48

section
variable {w w' : World} {c : Cfg} {m : Nat} {W : List Int} {D : List Bool} {gen : Int} {P X : Nat → List Int} {b : Bool}

theorem Fx.keep (h : Fx w c m W D gen P X b) {fp ts : List Nat} (hk : Keep fp w w') (ho : Off w fp ts) (ht : (ts.all fun e => !([30, 46, 49, 51, 52, 2, 48].contains e)) = true) : Fx w' c m W D gen P X b := by
  have hn : ∀ e, [30, 46, 49, 51, 52, 2, 48].contains e = true → ts.contains e = false := fun e he => by
    cases hc : ts.contains e with
    | false => rfl
    | true =>
      have := List.all_eq_true.1 ht e (by simpa using hc)
      rw [he] at this
      cases this
  exact ⟨hk.typ ho h.boxd (hn _ (by decide)), hk.typ ho h.boxv (hn _ (by decide)), hk.typ ho h.boxm (hn _ (by decide)), hk.typ ho h.boxn (hn _ (by decide)), hk.typ ho h.dirt (hn _ (by decide)), hk.typ ho h.now (hn _ (by decide)), hk.typ ho h.vault (hn _ (by decide))⟩
theorem Fx.keep0 (h : Fx w c m W D gen P X b) (hk : Keep [] w w') : Fx w' c m W D gen P X b := h.keep (ts := []) hk (fun k hk => by cases hk) rfl
theorem Fx.wds (h : Fx w c m W D gen P X b) (hl : W.length = 112) : Wds w (.slice (some ⟨c.g, 0, none⟩) 112 112) W := ⟨c.g, 112, ints W, rfl, hl, h.now, by rw [List.take_of_length_le (by rw [ints_length]; omega)]⟩
theorem Fx.setNow (h : Fx w c m W D gen P X b) (W' : List Int) : Fx (w.setRow c.g (ints W').toArray) c m W' D gen P X b := by
  have hk := keep_row (w := w) (b := c.g) (ints W').toArray
  have ho := Off.one h.now
  exact ⟨hk.typ ho h.boxd (by decide), hk.typ ho h.boxv (by decide), hk.typ ho h.boxm (by decide), hk.typ ho h.boxn (by decide), hk.typ ho h.dirt (by decide), h.now.set _, hk.typ ho h.vault (by decide)⟩
theorem Fx.setDirt (h : Fx w c m W D gen P X b) (D' : List Bool) : Fx (w.setRow c.bt (bools D').toArray) c m W D' gen P X b := by
  have hk := keep_row (w := w) (b := c.bt) (bools D').toArray
  have ho := Off.one h.dirt
  exact ⟨hk.typ ho h.boxd (by decide), hk.typ ho h.boxv (by decide), hk.typ ho h.boxm (by decide), hk.typ ho h.boxn (by decide), h.dirt.set _, hk.typ ho h.now (by decide), hk.typ ho h.vault (by decide)⟩
theorem Fx.setBox (h : Fx w c m W D gen P X b) (m' : Nat) : Fx (w.setRow c.bm [Value.pointer (some ⟨m', 0, none⟩)].toArray) c m' W D gen P X b := by
  have hk := keep_row (w := w) (b := c.bm) [Value.pointer (some ⟨m', 0, none⟩)].toArray
  have ho := Off.one h.boxm
  exact ⟨hk.typ ho h.boxd (by decide), hk.typ ho h.boxv (by decide), h.boxm.set _, hk.typ ho h.boxn (by decide), hk.typ ho h.dirt (by decide), hk.typ ho h.now (by decide), hk.typ ho h.vault (by decide)⟩
theorem Fx.setVault (h : Fx w c m W D gen P X b) (hk : Keep [c.vb] w w') {gen' : Int} {P' X' : Nat → List Int} {b' : Bool} (hv : Blk w' c.vb (vcells gen' P' b' X') 48) : Fx w' c m W D gen' P' X' b' := by
  have ho := Off.one h.vault
  exact ⟨hk.typ ho h.boxd (by decide), hk.typ ho h.boxv (by decide), hk.typ ho h.boxm (by decide), hk.typ ho h.boxn (by decide), hk.typ ho h.dirt (by decide), hk.typ ho h.now (by decide), hv⟩

theorem word_ret {v : Value} (h : Wds w v W) (i : Int) : Ret Try.prog 25 [v, .int .i64 i] w fun v w' => v = .int .i64 (loadW W i) ∧ w' = w := by
  refine ret_of 17 Try.func25 rfl rfl (by simp) ?_
  obtain ⟨g, cap, rfl, _, _, hc⟩ := h.at
  repeat (first | refine pl_pure hT rfl rfl rfl ?_ | refine pl_nil ?_ | refine rn_seq ?_ | refine rn_plain ?_ | refine rn_block ?_ | refine rn_inBlock ?_ | refine rn_skip ?_ | refine rn_true rfl ?_ | refine rn_false rfl ?_ | refine rn_exit rfl ?_ | refine pl_not rfl rfl ?_)
  by_cases h0 : i < 0
  · refine pl_val (.bool true) rfl rfl (val_int .i64 i 0 _ rfl rfl rfl (by simp [intOp, h0]) w) ?_
    repeat (first | refine pl_pure hT rfl rfl rfl ?_ | refine pl_nil ?_ | refine rn_seq ?_ | refine rn_plain ?_ | refine rn_block ?_ | refine rn_inBlock ?_ | refine rn_skip ?_ | refine rn_true rfl ?_ | refine rn_false rfl ?_ | refine rn_exit rfl ?_ | refine pl_not rfl rfl ?_)
    refine rn_ret Try.func25 (.inl ⟨_, rfl, rfl⟩) ⟨?_, rfl⟩
    have : hasM i = false := by simp [hasM]; omega
    simp [loadW, this]
  · refine pl_val (.bool false) rfl rfl (val_int .i64 i 0 _ rfl rfl rfl (by simp [intOp, h0]) w) ?_
    repeat (first | refine pl_pure hT rfl rfl rfl ?_ | refine pl_nil ?_ | refine rn_seq ?_ | refine rn_plain ?_ | refine rn_block ?_ | refine rn_inBlock ?_ | refine rn_skip ?_ | refine rn_true rfl ?_ | refine rn_false rfl ?_ | refine rn_exit rfl ?_ | refine pl_not rfl rfl ?_)
    by_cases h1 : i ≥ 112
    · refine pl_val (.bool true) rfl rfl (val_int .i64 i 112 _ rfl rfl rfl (by simp [intOp, h1]) w) ?_
      repeat (first | refine pl_pure hT rfl rfl rfl ?_ | refine pl_nil ?_ | refine rn_seq ?_ | refine rn_plain ?_ | refine rn_block ?_ | refine rn_inBlock ?_ | refine rn_skip ?_ | refine rn_true rfl ?_ | refine rn_false rfl ?_ | refine rn_exit rfl ?_ | refine pl_not rfl rfl ?_)
      refine rn_ret Try.func25 (.inl ⟨_, rfl, rfl⟩) ⟨?_, rfl⟩
      have : hasM i = false := by simp [hasM]; omega
      simp [loadW, this]
    · refine pl_val (.bool false) rfl rfl (val_int .i64 i 112 _ rfl rfl rfl (by simp [intOp, h1]) w) ?_
      repeat (first | refine pl_pure hT rfl rfl rfl ?_ | refine pl_nil ?_ | refine rn_seq ?_ | refine rn_plain ?_ | refine rn_block ?_ | refine rn_inBlock ?_ | refine rn_skip ?_ | refine rn_true rfl ?_ | refine rn_false rfl ?_ | refine rn_exit rfl ?_ | refine pl_not rfl rfl ?_)
      refine pl_val _ rfl rfl (val_index i.toNat hT rfl rfl rfl rfl (by omega) (by omega) w) ?_
      refine pl_val _ rfl rfl (val_load1 hT rfl rfl rfl (hc i.toNat (by omega))) ?_
      repeat (first | refine pl_pure hT rfl rfl rfl ?_ | refine pl_nil ?_ | refine rn_seq ?_ | refine rn_plain ?_ | refine rn_block ?_ | refine rn_inBlock ?_ | refine rn_skip ?_ | refine rn_true rfl ?_ | refine rn_false rfl ?_ | refine rn_exit rfl ?_ | refine pl_not rfl rfl ?_)
      refine rn_ret Try.func25 (.inl ⟨_, rfl, rfl⟩) ⟨?_, rfl⟩
      have : hasM i = true := by simp [hasM]; omega
      simp [loadW, this]

theorem upto_set {A B : List Int} {k : Nat} {x : Int} (hA : A[k]? = some x) (hB : k < B.length) : (A.take k ++ B.drop k).set k x = A.take (k + 1) ++ B.drop (k + 1) := by
  have hlt : k < A.length := (List.getElem?_eq_some_iff.1 hA).1
  have hx : A[k] = x := (List.getElem?_eq_some_iff.1 hA).2
  have hl : (A.take k).length = k := by rw [List.length_take]; omega
  rw [List.set_append_right _ _ (by omega), hl, Nat.sub_self, List.take_succ_eq_append_getElem hlt, hx, List.drop_eq_getElem_cons hB, List.append_assoc]
  rfl

theorem allS_at {S : List Int} (hS : S.length = 272) {k : Nat} (hk : k < 112) : (allS S)[k]? = (readS S ((k / 8 : Nat) : Int))[k % 8]? := by
  rw [← page_allS hS (by omega), page_at (by omega)]
  congr 1
  omega

theorem wake_ret {S : List Int} {wv : Value} (hd : DiskV c.d w c.d S [] wv) (hG : Good S) (hf : Fx w c m W D gen P X b) (hW : W.length = 112) (hD : D.length = 14) (hP : Full P) (hrd : ∀ i, i < 14 → readS S (i : Nat) = P i) :
    Ret Try.prog 18 [.pointer (some ⟨c.bn, 0, none⟩), .pointer (some ⟨c.bv, 0, none⟩), .pointer (some ⟨c.bt, 0, none⟩), .pointer (some ⟨c.bd, 0, none⟩), .pointer (some ⟨c.bm, 0, none⟩)] w fun v w' => v = .tuple #[] ∧
      ∃ s m', St c.d w' c.d s m' S (allS S) (List.replicate 14 false) wv ∧ Fx w' c m' (allS S) (List.replicate 14 false) gen P X b ∧ Keep [c.g, c.bt, c.bm] w w' := by
  refine ret_of 29 Try.func18 rfl rfl (by simp) ?_
  have hA := allS_length hG.len
  repeat (first | refine pl_pure hT rfl rfl rfl ?_ | refine pl_nil ?_ | refine rn_seq ?_ | refine rn_plain ?_ | refine rn_block ?_ | refine rn_inBlock ?_ | refine rn_skip ?_ | refine rn_true rfl ?_ | refine rn_false rfl ?_ | refine rn_exit rfl ?_ | refine pl_not rfl rfl ?_)
  refine rn_ind (fun q σ w' => ∃ k, q = 112 - k ∧ k ≤ 112 ∧ σ = [(0, .pointer (some ⟨c.bn, 0, none⟩)), (1, .pointer (some ⟨c.bv, 0, none⟩)), (2, .pointer (some ⟨c.bt, 0, none⟩)), (3, .pointer (some ⟨c.bd, 0, none⟩)), (4, .pointer (some ⟨c.bm, 0, none⟩)), (5, .int .i64 (k : Nat))] ∧
      Keep [c.g] w w' ∧ Fx w' c m ((allS S).take k ++ W.drop k) D gen P X b)
    (112 - 0) _ ?_ ⟨0, rfl, Nat.zero_le _, rfl, Keep.refl _ _, by simpa using hf⟩ ?_
  · exact ⟨rfl, rfl, rfl, rfl, rfl, rfl, trivial⟩
  rintro q σ w1 ih ⟨k, hq, hk, rfl, hk1, hf1⟩
  repeat (first | refine pl_pure hT rfl rfl rfl ?_ | refine pl_nil ?_ | refine rn_seq ?_ | refine rn_plain ?_ | refine rn_block ?_ | refine rn_inBlock ?_ | refine rn_skip ?_ | refine rn_true rfl ?_ | refine rn_false rfl ?_ | refine rn_exit rfl ?_ | refine pl_not rfl rfl ?_)
  refine pl_val _ rfl rfl (val_load1 hT rfl rfl rfl (hf1.boxn.cell rfl)) ?_
  repeat (first | refine pl_pure hT rfl rfl rfl ?_ | refine pl_nil ?_ | refine rn_seq ?_ | refine rn_plain ?_ | refine rn_block ?_ | refine rn_inBlock ?_ | refine rn_skip ?_ | refine rn_true rfl ?_ | refine rn_false rfl ?_ | refine rn_exit rfl ?_ | refine pl_not rfl rfl ?_)
  rcases Nat.lt_or_ge k 112 with hlt | hge
  · refine pl_val (.bool true) rfl rfl (val_int .i64 _ _ _ rfl rfl rfl (by simp [intOp]; omega) w1) ?_
    repeat (first | refine pl_pure hT rfl rfl rfl ?_ | refine pl_nil ?_ | refine rn_seq ?_ | refine rn_plain ?_ | refine rn_block ?_ | refine rn_inBlock ?_ | refine rn_skip ?_ | refine rn_true rfl ?_ | refine rn_false rfl ?_ | refine rn_exit rfl ?_ | refine pl_not rfl rfl ?_)
    have hk0 : Keep [c.g] w1 w1.drew := (Keep.refl _ _).drew
    have ho1 := Off.one hf1.now
    have h8 := hP (k / 8)
    have hcell : (vcells gen P b X)[0 + 1 + k / 8 * 8 + k % 8 * 1]? = some (.int .i64 ((P (k / 8)).getD (k % 8) 0)) := by
      have e := v_atPp (g := gen) (b := b) (X := X) hP (show k / 8 < 14 by omega)
      have e2 : (((vcells gen P b X).drop (1 + k / 8 * 8)).take 8)[k % 8]? = (vcells gen P b X)[0 + 1 + k / 8 * 8 + k % 8 * 1]? := by
        rw [List.getElem?_take, if_pos (by omega), List.getElem?_drop]
        congr 1
        omega
      rw [← e2, e]
      simp only [ints, List.getElem?_map, List.getD_eq_getElem?_getD, List.getElem?_eq_getElem (show k % 8 < (P (k / 8)).length by omega)]
      rfl
    refine rn_draw (fun w' => Keep [c.g] w1 w') [] hMix ?_
    refine dr_val 0 _ rfl (by decide +kernel) rfl rfl (fun w' hk => val_load1 hT rfl rfl rfl ((hk.typ ho1 hf1.boxn (by decide)).cell rfl)) hk0 ?_
    refine dr_pure 1 hT rfl (by decide +kernel) rfl rfl rfl ?_
    refine dr_val 2 _ rfl (by decide +kernel) rfl rfl (fun w' hk => val_load1 hT rfl rfl rfl ((hk.typ ho1 hf1.boxv (by decide)).cell rfl)) hk0 ?_
    refine dr_pure 3 hT rfl (by decide +kernel) rfl rfl rfl ?_
    refine dr_any 4 (.int .i64 ((k / 8 : Nat) : Int)) rfl (by decide +kernel) rfl rfl (fun w' => val_quo .i64 k 8 _ rfl rfl rfl (by decide) (quo8 k (by omega)) w') ?_
    refine dr_pure 5 hT rfl (by decide +kernel) rfl rfl rfl ?_
    refine dr_any 6 (.int .i64 ((k % 8 : Nat) : Int)) rfl (by decide +kernel) rfl rfl (fun w' => val_int .i64 k 8 _ rfl rfl rfl (by simp only [intOp]; rw [if_neg (by decide), Int.tmod_eq_emod_of_nonneg (by omega)]; rfl) w') ?_
    refine dr_pure 7 hT rfl (by decide +kernel) rfl rfl rfl ?_
    refine dr_pure 8 hT rfl (by decide +kernel) rfl rfl rfl ?_
    refine dr_any 9 _ rfl (by decide +kernel) rfl rfl (fun w' => val_indexArr (k / 8) hT rfl rfl rfl rfl rfl (by omega) w') ?_
    refine dr_any 10 _ rfl (by decide +kernel) rfl rfl (fun w' => val_indexArr (k % 8) hT rfl rfl rfl rfl rfl (by omega) w') ?_
    refine dr_val 11 (.int .i64 ((P (k / 8)).getD (k % 8) 0)) rfl (by decide +kernel) rfl rfl (fun w' hk => val_load1 hT rfl rfl rfl ((hk.typ ho1 hf1.vault (by decide)).cell hcell)) hk0 ?_
    refine dr_any 12 _ rfl (by decide +kernel) rfl rfl (fun w' => val_index k hT rfl rfl rfl rfl rfl hlt w') ?_
    have hf2 : Fx w1.drew c m ((allS S).take k ++ W.drop k) D gen P X b := hf1.keep0 ((Keep.refl [] w1).drew)
    have hlen : ((allS S).take k ++ W.drop k).length = 112 := by simp [hA, hW]; omega
    refine dr_op 13 rfl (by decide +kernel) rfl rfl (opTo_store [.int .i64 ((P (k / 8)).getD (k % 8) 0)] rfl rfl rfl rfl (by kernel_rfl) hf2.now (by rw [ints_length, hlen]; simp; omega) (by simp; rfl) ⟨fun _ => hk0.setRow _ _ (.inl (by simp)), ?_⟩)
    have hval : (allS S)[k]? = some ((P (k / 8)).getD (k % 8) 0) := by
      rw [allS_at hG.len hlt, hrd _ (by omega), List.getD_eq_getElem?_getD, List.getElem?_eq_getElem (show k % 8 < (P (k / 8)).length by omega)]
      rfl
    rw [show 0 + k * 1 = k by omega, splice_ints _ _ _ (by omega), upto_set hval (by omega)]
    refine dr_done (by decide +kernel) ?_
    have hf3 := hf2.setNow ((allS S).take (k + 1) ++ W.drop (k + 1))
    have hk3 := (hk1.drew).setRow c.g (ints ((allS S).take (k + 1) ++ W.drop (k + 1))).toArray (.inl (by simp))
    generalize (w1.drew.setRow c.g (ints ((allS S).take (k + 1) ++ W.drop (k + 1))).toArray) = w3 at *
    repeat (first | refine pl_pure hT rfl rfl rfl ?_ | refine pl_nil ?_ | refine rn_seq ?_ | refine rn_plain ?_ | refine rn_block ?_ | refine rn_inBlock ?_ | refine rn_skip ?_ | refine rn_true rfl ?_ | refine rn_false rfl ?_ | refine rn_exit rfl ?_ | refine pl_not rfl rfl ?_)
    refine pl_val (.int .i64 ((k + 1 : Nat) : Int)) rfl rfl (val_int .i64 k 1 _ rfl rfl rfl (by simp only [intOp]; rw [wrap_i64 (by omega) (by omega)]; rfl) w3) ?_
    repeat (first | refine pl_pure hT rfl rfl rfl ?_ | refine pl_nil ?_ | refine rn_seq ?_ | refine rn_plain ?_ | refine rn_block ?_ | refine rn_inBlock ?_ | refine rn_skip ?_ | refine rn_true rfl ?_ | refine rn_false rfl ?_ | refine rn_exit rfl ?_ | refine pl_not rfl rfl ?_)
    refine rn_sub ?_ (ih (112 - (k + 1)) _ w3 (by omega) ⟨k + 1, rfl, hlt, rfl, hk3, hf3⟩)
    exact ⟨rfl, rfl, rfl, rfl, rfl, rfl, trivial⟩
  refine pl_val (.bool false) rfl rfl (val_int .i64 _ _ _ rfl rfl rfl (by simp [intOp]; omega) w1) ?_
  clear ih
  have hk112 : k = 112 := by omega
  subst hk112
  rw [List.take_of_length_le (by omega), List.drop_eq_nil_of_le (by omega), List.append_nil] at hf1
  repeat (first | refine pl_pure hT rfl rfl rfl ?_ | refine pl_nil ?_ | refine rn_seq ?_ | refine rn_plain ?_ | refine rn_block ?_ | refine rn_inBlock ?_ | refine rn_skip ?_ | refine rn_true rfl ?_ | refine rn_false rfl ?_ | refine rn_exit rfl ?_ | refine pl_not rfl rfl ?_)
  refine pl_val _ rfl rfl (val_build _ rfl rfl built_bools0 w1) ?_
  refine pl_op rfl rfl (opTo_store (bools (List.replicate 14 false)) rfl rfl rfl rfl (by kernel_rfl) hf1.dirt (by rw [bools_length, bools_length, hD]; decide) (bools_one _) ?_)
  rw [splice_all (by rw [bools_length, bools_length, hD]; rfl)]
  have hf2 := hf1.setDirt (List.replicate 14 false)
  have hk2 : Keep [c.g, c.bt, c.bm] w (w1.setRow c.bt (bools (List.replicate 14 false)).toArray) := (hk1.mono fun k hk => .inl (by simp at hk; simp [hk])).setRow _ _ (.inl (by simp))
  have hd1 := hd.keep hk1 fun k hk hm => not_fp hd hf.now (by decide) (by simp at hm; rw [← hm]; exact hk)
  have hd2 := hd1.keep (keep_row (w := w1) (b := c.bt) (bools (List.replicate 14 false)).toArray) fun k hk hm => not_fp hd1 hf1.dirt (by decide) (by simp at hm; rw [← hm]; exact hk)
  generalize (w1.setRow c.bt (bools (List.replicate 14 false)).toArray) = w2 at *
  clear hf1 hk1 hd1
  repeat (first | refine pl_pure hT rfl rfl rfl ?_ | refine pl_nil ?_ | refine rn_seq ?_ | refine rn_plain ?_ | refine rn_block ?_ | refine rn_inBlock ?_ | refine rn_skip ?_ | refine rn_true rfl ?_ | refine rn_false rfl ?_ | refine rn_exit rfl ?_ | refine pl_not rfl rfl ?_)
  refine pl_val _ rfl rfl (val_load1 hT rfl rfl rfl (hf2.boxd.cell rfl)) ?_
  refine pl_op rfl rfl (opTo_call rfl rfl rfl rfl (by decide +kernel) ((open_ret c.d w2).mono ?_))
  rintro v w3 ⟨rfl, hs3, hk3⟩
  have h3 := hd2.keep hk3 (by simp)
  refine pl_op rfl rfl (opTo_call rfl rfl rfl rfl (by decide +kernel) ((mnew_ret hs3 h3).mono ?_))
  rintro v w4 ⟨m', rfl, hle, hm4, hk4⟩
  have hdm : c.d ≤ m' := by have := (h3.lt c.d (by simp [fpD])).2; omega
  have h4 := fresh_st hm4 hs3 h3 hG hk4 hdm
  have hk24 := hk3.tr0 hk4
  have hf4 := hf2.keep0 hk24
  have hkw4 := hk2.tr0 hk24
  refine pl_op rfl rfl (opTo_store [.pointer (some ⟨m', 0, none⟩)] rfl rfl rfl rfl (by kernel_rfl) hf4.boxm (by simp) (by simp; rfl) ?_)
  rw [splice_all (by rfl)]
  have hf5 := hf4.setBox m'
  have hkr := keep_row (w := w4) (b := c.bm) [Value.pointer (some ⟨m', 0, none⟩)].toArray
  have hor := Off.one hf4.boxm
  have h5 : St c.d (w4.setRow c.bm [Value.pointer (some ⟨m', 0, none⟩)].toArray) c.d w2.heap.size m' S (allS S) (List.replicate 14 false) wv :=
    ⟨⟨hkr.typ hor h4.mem.blk (by decide), h4.mem.wl, h4.mem.dl⟩, hkr.typ hor h4.sto (by decide), h4.dsk.keep hkr fun k hk hm => not_fp h4.dsk hf4.boxm (by decide) (by simp at hm; rw [← hm]; exact hk), h4.good, h4.tied, h4.hm⟩
  repeat (first | refine pl_pure hT rfl rfl rfl ?_ | refine pl_nil ?_ | refine rn_seq ?_ | refine rn_plain ?_ | refine rn_block ?_ | refine rn_inBlock ?_ | refine rn_skip ?_ | refine rn_true rfl ?_ | refine rn_false rfl ?_ | refine rn_exit rfl ?_ | refine pl_not rfl rfl ?_)
  exact rn_end Try.func18 (.inr (.inl ⟨rfl, rfl⟩)) ⟨rfl, _, m', h5, hf5, hkw4.setRow _ _ (.inl (by simp))⟩
end
end E
end Go.Proofs.Ytcnjmjdnlhiflab
