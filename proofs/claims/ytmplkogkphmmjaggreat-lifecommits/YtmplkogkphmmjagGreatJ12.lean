/- Several texts in one: MaH, MnA, MwB, MwC, MwD. -/
import Derived.Test.YtmplkogkphmmjagGreatJ11
/- Helpers for the walks of the laws of package machine. -/
namespace Go.Proofs.YtmplkogkphmmjagGreat
set_option maxRecDepth 20000
set_option maxHeartbeats 4000000
namespace E
open Go.Proofs

theorem DiskV.lower {B B' : Nat} {w : World} {d : Nat} {S : List Int} {L : List Wr} {wv : Value} (h : DiskV B w d S L wv) (hB : B' ≤ B) : DiskV B' w d S L wv := by
  refine ⟨h.blk, ⟨h.owns.1, ?_⟩, h.ne, h.len, Nat.le_trans hB h.base, h.wf⟩
  rcases h.owns.2 with h0 | ⟨g, cap, cur, h1, h2, r⟩
  · exact .inl h0
  · exact .inr ⟨g, cap, cur, h1, Nat.le_trans hB h2, r⟩
theorem InpV.keep0 {w w' : World} {v : Value} {l : List Int} (h : InpV w v l) (hk : Keep [] w w') : InpV w' v l := by
  obtain ⟨a, cap, h1, h2⟩ := h
  refine ⟨a, cap, h1, fun h0 => ?_⟩
  obtain ⟨b, q, h3, h4, h5⟩ := h2 h0
  exact ⟨b, q, h3, Nat.lt_of_lt_of_le h4 hk.size, range_keep h5 hk h4 (by simp)⟩
theorem InpV.ro {w w' : World} {v : Value} {l : List Int} (h : InpV w v l) (hk : Keep [] w w') : LsR (fun b => b < w.heap.size) w' v l := by
  obtain ⟨a, cap, h1, h2⟩ := h
  refine ⟨a, cap, h1, fun h0 => ?_⟩
  obtain ⟨b, q, h3, h4, h5⟩ := h2 h0
  exact ⟨b, q, h3, h4, range_keep h5 hk h4 (by simp)⟩
theorem InpV.lies {w w' : World} {v : Value} {l : List Int} (h : InpV w v l) (hk : Keep [] w w') : LsV w' v l := h.keep0 hk
/-- All of a new machine is new. -/
theorem mach_ge {n a d s m q : Nat} {fp : List Nat} (hf : ∀ k ∈ fp, k ∈ fpM d s m (.slice none 0 0) ∨ k ∈ [q] ∨ n ≤ k) (hd : a ≤ d) (hs : a ≤ s) (hm : a ≤ m) (hq : a ≤ q) (hn : a ≤ n) : ∀ k ∈ fp, a ≤ k := by
  intro k hk
  rcases hf k hk with h | h | h
  · simp only [fpM, fpD, Value.ownBlock, Option.toList, List.mem_cons, List.not_mem_nil, or_false] at h
    rcases h with rfl | rfl | rfl <;> assumption
  · rw [List.mem_singleton.1 h]; exact hq
  · omega
theorem RowI.low {w : World} {B B' e : Nat} {v : Value} {l : List Is} (h : RowI e w B v l) (hB : B' ≤ B) : RowI e w B' v l := h.lower hB
theorem RowL.low {w : World} {B B' : Nat} {v : Value} {l : List Int} (h : RowL w B v l) (hB : B' ≤ B) : RowL w B' v l := by
  refine ⟨h.1, ?_⟩
  rcases h.2 with h0 | ⟨g, cap, cur, h1, h2, r⟩
  · exact .inl h0
  · exact .inr ⟨g, cap, cur, h1, Nat.le_trans hB h2, r⟩
theorem ord0 {c : Nat} {Q : List Is} {inp : List Int} {m q : Nat} (hP : Prg c Q) (hc : c ≤ 48) (hi : inp.length ≤ 1000) (left : Int) : Ord c Q ⟨Q ++ [haltI], inp, m, q, mind0 c, ([], false), left, false, genS S0⟩ 0 :=
  ⟨⟨hP, hc, rfl, fit0 _, hi, Nat.le_refl _, Nat.le_refl _, by show (0 : Int) ≤ genS S0; rw [genS0]; decide, by show genS S0 ≤ ((0 : Nat) : Int); rw [genS0]; decide, Nat.zero_le _⟩, rfl, rfl⟩
theorem cells_len {c i : Nat} {Q : List Is} {M : Mx} (h : Ord c Q M i) : M.md.cells.length = c := by
  have := h.fit.cells
  omega
theorem cellOf_len (vs : List VarT) : cellOf vs ((vs.length : Nat) : Int) = sumV vs := by
  unfold cellOf
  rw [Int.toNat_natCast, List.take_length]
end E
end Go.Proofs.YtmplkogkphmmjagGreat

/- The landed printer, as it lies in memory; contracts of its Put, List, Code; slices.Clone of numbers. -/
namespace Go.Proofs.YtmplkogkphmmjagGreat
set_option maxRecDepth 20000
set_option maxHeartbeats 4000000
namespace E
open Go.Proofs

section
variable {P : Program} {T : Tbl} {n : Nat} {σ : Env} {o : Oper}
theorem val_isNil {t t' : TypeId} {x : Operand} {len cap sz : Nat} (hT : T.check P = true) (ho : o.op = .binOp .eql t x (.const (.slice none 0 0)) t') (hx : ev σ x = some (.slice none len cap)) (ht : find T.sl t = some sz) (w : World) : Val P n σ o w (.bool true) := by
  intro a ha
  have hs := Tbl.sl_ok hT ht
  unfold slOk at hs
  split at hs
  · rename_i e hu
    have he : ∀ d, (Op.equalIn (d + 1) t (.slice none len cap) (.slice none 0 0)).run P w = .ok true w := fun d => by
      simp [Op.equalIn, run_underlying hu]
    have he' : (Op.equal t (.slice none len cap) (.slice none 0 0)).run P w = .ok true w := he 9999
    have hc : a.eval (.const (.slice none 0 0)) = .slice none 0 0 := rfl
    simp [execOp, ho, ha.eval hx, hc, eqGuard, binOp, he']
  · cases hs
theorem mval_min {t : TypeId} {x y : Operand} {kk : IntKind} {a b : Int} (r : Int) (ho : o.op = .call { callee := .builtin .min, args := #[x, y], argTypes := #[t, t] }) (hx : ev σ x = some (.int kk a)) (hy : ev σ y = some (.int kk b)) (hr : (if b < a then b else a) = r) (w : World) : Val P n σ o w (.int kk r) := by
  intro ac ha
  simp [execOp, ho, resolve, invoke, builtin, ha.eval hx, ha.eval hy, Builtin.min_, Builtin.min2, hr]
theorem mval_max {t : TypeId} {x y : Operand} {kk : IntKind} {a b : Int} (r : Int) (ho : o.op = .call { callee := .builtin .max, args := #[x, y], argTypes := #[t, t] }) (hx : ev σ x = some (.int kk a)) (hy : ev σ y = some (.int kk b)) (hr : (if b > a then b else a) = r) (w : World) : Val P n σ o w (.int kk r) := by
  intro ac ha
  simp only [gt_iff_lt] at hr
  simp [execOp, ho, resolve, invoke, builtin, ha.eval hx, ha.eval hy, Builtin.max_, Builtin.max2, hr]
end

theorem cloneL_ret {w : World} {v : Value} {l : List Int} (h : LsV w v l) (hl : l.length ≤ 1000000) : Ret Tryz.prog 21 [v] w fun r w' => RowL w' w.heap.size r l ∧ Keep [] w w' := by
  obtain ⟨a, cap, rfl, h2⟩ := h
  refine ret_of 8 Tryz.func21 rfl rfl (by simp) ?_
  cases a with
  | none =>
    have h0 : l = [] := List.eq_nil_of_length_eq_zero (by
      rcases Nat.eq_zero_or_pos l.length with h | h
      · exact h
      · obtain ⟨_, _, e, _⟩ := h2 h
        cases e)
    subst h0
    refine au ?_
    refine pl_val (.bool true) rfl rfl (val_isNil hT rfl rfl rfl w) ?_
    refine au ?_
    exact rn_ret Tryz.func21 (.inl ⟨_, rfl, rfl⟩) ⟨RowL.nil _ _, Keep.refl _ _⟩
  | some ad =>
    refine au ?_
    refine pl_val (.bool false) rfl rfl (val_notNil hT rfl rfl rfl w) ?_
    refine au ?_
    refine pl_op rfl rfl (opTo_sliceN tLg [] rfl rfl (by kernel_rfl) ?_)
    intro w1 g hg hs1 hk1 hb1
    have hown : Own w1 w.heap.size tLg 1 (.slice (some ⟨g, 0, none⟩) 0 0) 0 [] := ⟨rfl, .inr ⟨g, 0, [], rfl, by omega, hb1, Nat.le_refl _, by simp, rfl⟩⟩
    refine au ?_
    by_cases h0 : 0 < l.length
    · obtain ⟨b, q, e, hb, hr⟩ := h2 h0
      cases e
      refine pl_op rfl rfl (opTo_app w.heap.size tLg 1 8 [] (lgs l) rfl rfl rfl app_lg hown (range_keep hr hk1 hb (by simp)) (by rw [lgs_length]; omega) (lgs_one l) h0 (by unfold maxLen; omega) (by omega) hk1.size ?_)
      intro g2 c2 w2 hown2 hcase
      rw [Nat.zero_add, List.nil_append] at hown2
      rw [Nat.zero_add]
      refine au ?_
      refine rn_ret Tryz.func21 (.inl ⟨_, rfl, rfl⟩) ⟨hown2, ?_⟩
      rcases hcase with ⟨h3, _, h5⟩ | ⟨_, h4, _⟩
      · refine hk1.trans h5 fun k hk => .inr ?_
        have h3 : some g = some g2 := h3
        injection h3 with h3
        rw [List.mem_singleton.1 hk]
        omega
      · exact hk1.tr h4
    · have h0 : l = [] := List.eq_nil_of_length_eq_zero (by omega)
      subst h0
      refine pl_op rfl rfl (opTo_appZ (ln := 0) rfl rfl rfl app_lg hown ?_)
      refine au ?_
      exact rn_ret Tryz.func21 (.inl ⟨_, rfl, rfl⟩) ⟨hown, hk1⟩

/-! ### The printer -/
def prC (v : Value) (p : Pr) : List Value := [v, .int .i64 (if p.2 then 15 else 0)]
def pz0 : List Value := [.slice none 0 0, .int .i64 0]
theorem nePL : tPr ≠ tLg := by decide
/-- A printer at q, what was printed in the row v. -/
structure Pv (R : Nat → Prop) (B : Nat) (w : World) (q : Nat) (v : Value) (p : Pr) : Prop where
  blk : Blk w q (prC v p) tPr
  row : RowL w B v p.1
  ge : B ≤ q
  ro : ∀ k, R k → k < w.heap.size
  nr : ∀ k ∈ q :: obs v, ¬ R k
def PVm (R : Nat → Prop) (B : Nat) (w : World) (q : Nat) (fq : List Nat) (p : Pr) : Prop := ∃ v, fq = q :: obs v ∧ Pv R B w q v p
section
variable {R : Nat → Prop} {B : Nat} {w w' : World} {q : Nat} {fq fp2 : List Nat} {p : Pr} {v : Value}
theorem Pv.lt (h : Pv R B w q v p) : ∀ k ∈ q :: obs v, B ≤ k ∧ k < w.heap.size ∧ ¬ R k := fun k hk => by
  refine ⟨?_, ?_, h.nr k hk⟩
  · rcases List.mem_cons.1 hk with rfl | hk
    · exact h.ge
    · exact (h.row.lt k hk).1
  · rcases List.mem_cons.1 hk with rfl | hk
    · exact h.blk.lt
    · exact (h.row.lt k hk).2
theorem Pv.keep (h : Pv R B w q v p) (hk : Keep fp2 w w') (hn : ∀ k ∈ fp2, k ∉ q :: obs v) : Pv R B w' q v p :=
  ⟨hk.blk h.blk fun hm => hn q hm (by simp), h.row.keep hk fun k hk hm => hn k hm (by simp [hk]), h.ge, fun k hR => Nat.lt_of_lt_of_le (h.ro k hR) hk.size, h.nr⟩
theorem Pv.keep0 (h : Pv R B w q v p) (hk : Keep [] w w') : Pv R B w' q v p := h.keep hk fun k hk => by cases hk
theorem pv_lt (h : PVm R B w q fq p) : ∀ k ∈ fq, B ≤ k ∧ k < w.heap.size ∧ ¬ R k := by
  obtain ⟨v, rfl, h⟩ := h
  exact h.lt
theorem pv_keep (h : PVm R B w q fq p) (hk : Keep fp2 w w') (hn : ∀ k ∈ fp2, ¬ R k ∧ k ∉ fq) : PVm R B w' q fq p := by
  obtain ⟨v, rfl, h⟩ := h
  exact ⟨v, rfl, h.keep hk fun k hk => (hn k hk).2⟩
theorem pv_new (h : Blk w q pz0 tPr) (hB : B ≤ q) (hR : ¬ R q) (hro : ∀ k, R k → k < w.heap.size) : PVm R B w q [q] ([], false) :=
  ⟨.slice none 0 0, rfl, h, RowL.nil _ _, hB, hro, fun k hk => by
    have hk : k = q := by simpa [obs, Value.ownBlock] using hk
    rw [hk]
    exact hR⟩

theorem pput_ret (h : PVm R B w q fq p) (hl : p.1.length ≤ 400000) (k n : Int) : Ret Tryz.prog 98 [.pointer (some ⟨q, 0, none⟩), .int .i64 k, .int .i64 n] w fun r w' => r = .tuple #[] ∧ ∃ fq', PVm R B w' q fq' (putI p k n) ∧ Keep fq w w' ∧ ∀ k ∈ fq', k ∈ fq ∨ w.heap.size ≤ k := by
  obtain ⟨v, rfl, h⟩ := h
  obtain ⟨a, cap, rfl⟩ := h.row.form
  refine ret_of 48 Tryz.func98 rfl rfl (by simp) ?_
  refine au ?_
  refine pl_val _ rfl rfl (val_load1 hT rfl rfl rfl (h.blk.cell rfl)) ?_
  refine au ?_
  by_cases he : k = (p.1.length : Nat)
  · refine ye ?_
    refine au ?_
    refine pl_val _ rfl rfl (val_load1 hT rfl rfl rfl (h.blk.cell rfl)) ?_
    refine au ?_
    refine pl_op rfl rfl (opTo_sliceN tLg [.int .i64 n] rfl rfl (slice_lg n) ?_)
    intro w1 g hg hs1 hk1 hb1
    have h1 := h.keep0 hk1
    have hBw : B ≤ w1.heap.size := Nat.le_trans h1.ge (Nat.le_of_lt h1.blk.lt)
    refine pl_op rfl rfl (opTo_app B tLg 1 8 (lgs p.1) [.int .i64 n] rfl rfl rfl app_lg h1.row (hb1.range rfl) rfl (one_v rfl) (by decide) (by unfold maxLen; omega) (by omega) hBw ?_)
    intro g2 cap2 w2 hown2 hcase
    have hrow2 : RowL w2 B (.slice (some ⟨g2, 0, none⟩) (p.1.length + 1) cap2) (p.1 ++ [n]) := by
      have e1 : (p.1 ++ [n]).length = p.1.length + 1 := by simp
      have e2 : lgs (p.1 ++ [n]) = lgs p.1 ++ [.int .i64 n] := by rw [lgs_app]; rfl
      unfold RowL
      rw [e1, e2]
      exact hown2
    have hk2 : Keep (obs (.slice a p.1.length cap)) w1 w2 := by
      rcases hcase with ⟨h3, _, h4⟩ | ⟨_, h4, _⟩
      · rw [obs, h3]; exact h4
      · exact h4.of0
    have hob : ∀ x ∈ obs (.slice (some ⟨g2, 0, none⟩) (p.1.length + 1) cap2), x ∈ obs (.slice a p.1.length cap) ∨ w.heap.size ≤ x := fun x hx => by
      have hx : x = g2 := by simpa [obs, Value.ownBlock] using hx
      subst hx
      rcases hcase with ⟨h3, _, _⟩ | ⟨h3, _, _⟩
      · exact .inl (mem_obs.2 h3)
      · exact .inr (by omega)
    have hbk2 := hk2.blk h1.blk fun hm => h1.row.ne h1.blk nePL q hm (by simp)
    refine au ?_
    refine pl_op rfl rfl (opTo_storeN [.slice (some ⟨g2, 0, none⟩) (p.1.length + 1) cap2] rfl rfl rfl rfl size_ls hbk2 (by simp [prC]) (one_v rfl) ?_)
    intro w3 hs3 hk3 hb3
    refine au ?_
    refine rn_end Tryz.func98 (.inr (.inl ⟨rfl, rfl⟩)) ⟨rfl, q :: obs (.slice (some ⟨g2, 0, none⟩) (p.1.length + 1) cap2), ⟨_, rfl, ?_, ?_, h.ge, ?_, ?_⟩, ?_, ?_⟩
    · unfold putI
      rw [if_pos he]
      exact hb3
    · unfold putI
      rw [if_pos he]
      exact hrow2.keep hk3 (hrow2.ne hbk2 nePL)
    · intro k hR
      have := h.ro k hR
      have := hk1.size
      have := hk2.size
      omega
    · intro x hx hR
      rcases List.mem_cons.1 hx with rfl | hx
      · exact h.nr _ (by simp) hR
      · rcases hob x hx with h4 | h4
        · exact h.nr _ (by simp [h4]) hR
        · have := h.ro x hR; omega
    · refine (hk1.of0.trans hk2 fun x hx => .inl (by simp [hx])).trans hk3 fun x hx => .inl ?_
      rw [List.mem_singleton.1 hx]
      simp
    · intro x hx
      rcases List.mem_cons.1 hx with rfl | hx
      · exact .inl (by simp)
      · rcases hob x hx with h4 | h4
        · exact .inl (by simp [h4])
        · exact .inr h4
  · refine nay ?_
    have bad : ∀ {w3 : World}, ¬ (0 ≤ k ∧ p.1[k.toNat]? = some n) → w3.heap.size = w.heap.size → Keep [q] w w3 → Blk w3 q (splice (prC (.slice a p.1.length cap) p) 1 [.int .i64 15]) tPr → ∃ fq', PVm R B w3 q fq' (putI p k n) ∧ Keep (q :: obs (.slice a p.1.length cap)) w w3 ∧ ∀ x ∈ fq', x ∈ q :: obs (.slice a p.1.length cap) ∨ w.heap.size ≤ x := fun {w3} hc hs3 hk3 hb3 => by
      refine ⟨_, ⟨.slice a p.1.length cap, rfl, ?_, ?_, h.ge, ?_, h.nr⟩, ?_, fun x hx => .inl hx⟩
      · unfold putI
        rw [if_neg he, if_neg hc]
        exact hb3
      · unfold putI
        rw [if_neg he, if_neg hc]
        exact h.row.keep hk3 (h.row.ne h.blk nePL)
      · intro x hR
        rw [hs3]
        exact h.ro x hR
      · exact hk3.mono fun x hx => .inl (by rw [List.mem_singleton.1 hx]; simp)
    refine au ?_
    by_cases h0 : k < 0
    · refine ye ?_
      refine au ?_
      refine pl_op rfl rfl (opTo_storeN [.int .i64 15] rfl rfl rfl rfl size_in h.blk (by simp [prC]) (one_in _) ?_)
      intro w3 hs3 hk3 hb3
      refine au ?_
      exact rn_end Tryz.func98 (.inr (.inl ⟨rfl, rfl⟩)) ⟨rfl, bad (fun hc => by omega) hs3 hk3 hb3⟩
    · refine nay ?_
      refine au ?_
      by_cases h1 : k > (p.1.length : Nat)
      · refine ye ?_
        refine au ?_
        refine pl_op rfl rfl (opTo_storeN [.int .i64 15] rfl rfl rfl rfl size_in h.blk (by simp [prC]) (one_in _) ?_)
        intro w3 hs3 hk3 hb3
        refine au ?_
        exact rn_end Tryz.func98 (.inr (.inl ⟨rfl, rfl⟩)) ⟨rfl, bad (fun hc => by have := (List.getElem?_eq_some_iff.1 hc.2).1; omega) hs3 hk3 hb3⟩
      · refine nay ?_
        refine au ?_
        refine pl_val _ rfl rfl (val_load1 hT rfl rfl rfl (h.blk.cell rfl)) ?_
        obtain ⟨j, rfl⟩ : ∃ j : Nat, k = (j : Nat) := ⟨k.toNat, by omega⟩
        have hj : j < p.1.length := by omega
        obtain ⟨x, hxe⟩ : ∃ x, x = p.1[j] := ⟨_, rfl⟩
        have hx : p.1[j]? = some x := by rw [List.getElem?_eq_getElem hj, hxe]
        obtain ⟨g, cap', hv, hc⟩ := h.row.at hx
        cases hv
        refine au ?_
        refine pl_val _ rfl rfl (val_index j hT rfl rfl rfl rfl rfl hj w) ?_
        refine pl_val _ rfl rfl (val_load1 hT rfl rfl rfl ((by rw [Nat.zero_add, Nat.mul_one]; exact hc))) ?_
        refine au ?_
        by_cases hxn : x = n
        · refine nay ?_
          refine au ?_
          refine rn_end Tryz.func98 (.inr (.inl ⟨rfl, rfl⟩)) ⟨rfl, _, ⟨_, rfl, ?_⟩, Keep.refl _ _, fun x hx => .inl hx⟩
          unfold putI
          rw [if_neg he, if_pos ⟨by omega, by rw [Int.toNat_natCast, hx, hxn]⟩]
          exact h
        · refine ye ?_
          refine au ?_
          refine pl_op rfl rfl (opTo_storeN [.int .i64 15] rfl rfl rfl rfl size_in h.blk (by simp [prC]) (one_in _) ?_)
          intro w3 hs3 hk3 hb3
          refine au ?_
          exact rn_end Tryz.func98 (.inr (.inl ⟨rfl, rfl⟩)) ⟨rfl, bad (fun hc => by rw [Int.toNat_natCast, hx] at hc; exact hxn (Option.some.inj hc.2)) hs3 hk3 hb3⟩

theorem plist_ret (h : PVm R B w q fq p) (hl : p.1.length ≤ 400000) : Ret Tryz.prog 48 [.pointer (some ⟨q, 0, none⟩)] w fun r w' => RowL w' w.heap.size r p.1 ∧ Keep [] w w' := by
  obtain ⟨v, rfl, h⟩ := h
  obtain ⟨a, cap, rfl⟩ := h.row.form
  refine ret_of 8 Tryz.func48 rfl rfl (by simp) ?_
  refine au ?_
  refine pl_val _ rfl rfl (val_load1 hT rfl rfl rfl (h.blk.cell rfl)) ?_
  refine pl_op rfl rfl (opTo_call (fst := []) (cap := []) rfl rfl rfl rfl (by decide +kernel) ((cloneL_ret h.row.lies (by omega)).mono ?_))
  rintro r w1 ⟨hr, hk⟩
  refine au ?_
  exact rn_ret Tryz.func48 (.inl ⟨_, rfl, rfl⟩) ⟨hr, hk⟩

theorem pcode_ret (h : PVm R B w q fq p) : Ret Tryz.prog 65 [.pointer (some ⟨q, 0, none⟩)] w fun r w' => r = .int .i64 (if p.2 then 15 else 0) ∧ w' = w := by
  obtain ⟨v, rfl, h⟩ := h
  refine ret_of 7 Tryz.func65 rfl rfl (by simp) ?_
  refine au ?_
  refine pl_val _ rfl rfl (val_load1 hT rfl rfl rfl (h.blk.cell rfl)) ?_
  refine au ?_
  exact rn_ret Tryz.func65 (.inl ⟨_, rfl, rfl⟩) ⟨rfl, rfl⟩
end
end E
end Go.Proofs.YtmplkogkphmmjagGreat

/- The landed machine, as it lies in memory; its words; contracts of goes, next, push, pop, cell, setCell, jump, stop. -/
namespace Go.Proofs.YtmplkogkphmmjagGreat
set_option maxRecDepth 20000
set_option maxHeartbeats 4000000
namespace E
open Go.Proofs

abbrev tMa : Nat := 52
theorem neML : tMa ≠ tLg := by decide
theorem neMP : tMa ≠ tPr := by decide
def maC (m : Nat) (cv iv : Value) (q : Nat) (left : Int) (torn : Bool) : List Value := [.pointer (some ⟨m, 0, none⟩), cv, iv, .pointer (some ⟨q, 0, none⟩), .int .i64 left, .bool torn]

/-- What is known of a machine beside its mind. -/
structure Mo where
  L : List Is
  inp : List Int
  m : Nat
  q : Nat
  pr : Pr
  left : Int
  torn : Bool
  gen : Int
def Mx.o (M : Mx) : Mo := ⟨M.L, M.inp, M.m, M.q, M.pr, M.left, M.torn, M.gen⟩
def fpV (x d s m : Nat) (wv : Value) (q : Nat) (pv iv : Value) : List Nat := x :: (fpM d s m wv ++ ((q :: obs pv) ++ obs iv))
theorem mem_fpV {x d s m q k : Nat} {wv pv iv : Value} : k ∈ fpV x d s m wv q pv iv ↔ k = x ∨ k = m ∨ k = s ∨ k ∈ fpD d wv ∨ k ∈ q :: obs pv ∨ k ∈ obs iv := by
  unfold fpV fpM
  simp only [List.mem_cons, List.mem_append, or_assoc]

/-- A machine at x. -/
structure Mv (R : Nat → Prop) (B : Nat) (w : World) (x : Nat) (O : Mo) (d s : Nat) (S W : List Int) (D : List Bool) (wv cv iv pv : Value) : Prop where
  st : St B w d s O.m S W D wv
  hs : B ≤ s
  gen : genS S = O.gen
  pr : Pv R B w O.q pv O.pr
  blk : Blk w x (maC O.m cv iv O.q O.left O.torn) tMa
  code : InsV R w cv O.L
  inp : RowL w B iv O.inp
  hx : B ≤ x
  apt : Apt pv iv
  nr : ∀ k ∈ fpV x d s O.m wv O.q pv iv, ¬ R k
/-- A machine at x, of whose words E is true, and Y of its disk. -/
def Vx (Y : Nat → List Int → Prop) (R : Nat → Prop) (B : Nat) (w : World) (x : Nat) (fp : List Nat) (O : Mo) (E : List Int → Prop) : Prop := ∃ d s S W D wv cv iv pv, fp = fpV x d s O.m wv O.q pv iv ∧ Mv R B w x O d s S W D wv cv iv pv ∧ E W ∧ Y d S
/-- A mind that stands in the words W; behind the cells they are those of Z. -/
structure Ena (Z W : List Int) (m : Md) : Prop extends Enc W m where
  agr : ∀ j, 5 + m.cells.length ≤ j → W[j]? = Z[j]?
/-- The same, but for the numbers on the stack. -/
structure Enb (Z W : List Int) (m : Md) : Prop extends Enc W m where
  agb : ∀ j, 5 + m.cells.length ≤ j → (j < 53 ∨ 53 + m.stack.length ≤ j) → W[j]? = Z[j]?
theorem Ena.b {Z W : List Int} {m : Md} (h : Ena Z W m) : Enb Z W m := ⟨h.toEnc, fun j hj _ => h.agr j hj⟩
def Vm (Y : Nat → List Int → Prop) (Z : List Int) (R : Nat → Prop) (B : Nat) (w : World) (x : Nat) (fp : List Nat) (M : Mx) : Prop := Vx Y R B w x fp M.o fun W => Ena Z W M.md
def Vp (Y : Nat → List Int → Prop) (Z : List Int) (R : Nat → Prop) (B : Nat) (w : World) (x : Nat) (fp : List Nat) (M : Mx) : Prop := Vx Y R B w x fp M.o fun W => Enb Z W M.md

section
variable {Y : Nat → List Int → Prop} {Z : List Int} {R : Nat → Prop} {B : Nat} {w w' : World} {x d s : Nat} {fp fp2 : List Nat} {O : Mo} {S W : List Int} {D : List Bool} {wv cv iv pv : Value} {E E' : List Int → Prop}
theorem Mv.lt (h : Mv R B w x O d s S W D wv cv iv pv) : ∀ k ∈ fpV x d s O.m wv O.q pv iv, B ≤ k ∧ k < w.heap.size ∧ ¬ R k := fun k hk => by
  have hn := h.nr k hk
  refine ⟨?_, ?_, hn⟩
  · rcases mem_fpV.1 hk with rfl | rfl | rfl | hk | hk | hk
    · exact h.hx
    · exact h.st.hm
    · exact h.hs
    · exact (h.st.dsk.lt k hk).1
    · exact (h.pr.lt k hk).1
    · exact (h.inp.lt k hk).1
  · rcases mem_fpV.1 hk with rfl | rfl | rfl | hk | hk | hk
    · exact h.blk.lt
    · exact h.st.mem.blk.lt
    · exact Blk.lt h.st.sto
    · exact (h.st.dsk.lt k hk).2
    · exact (h.pr.lt k hk).2.1
    · exact (h.inp.lt k hk).2
theorem Mv.keep (h : Mv R B w x O d s S W D wv cv iv pv) (hk : Keep fp2 w w') (hn : ∀ k ∈ fp2, ¬ R k ∧ k ∉ fpV x d s O.m wv O.q pv iv) : Mv R B w' x O d s S W D wv cv iv pv := by
  have hx : ∀ k, k ∈ fpV x d s O.m wv O.q pv iv → k ∉ fp2 := fun k hk hm => (hn k hm).2 hk
  refine ⟨⟨h.st.mem.keep hk (hx _ (mem_fpV.2 (.inr (.inl rfl)))), hk.blk h.st.sto (hx _ (mem_fpV.2 (.inr (.inr (.inl rfl))))), h.st.dsk.keep hk fun k hk => hx _ (mem_fpV.2 (.inr (.inr (.inr (.inl hk))))), h.st.good, h.st.tied, h.st.hm⟩, h.hs, h.gen,
    h.pr.keep hk fun k hm hq => (hn k hm).2 (mem_fpV.2 (.inr (.inr (.inr (.inr (.inl hq)))))), hk.blk h.blk (hx _ (mem_fpV.2 (.inl rfl))), h.code.keep hk fun c hR => ⟨h.pr.ro c hR, fun hm => (hn c hm).1 hR⟩,
    h.inp.keep hk fun k hq => hx _ (mem_fpV.2 (.inr (.inr (.inr (.inr (.inr hq)))))), h.hx, h.apt, h.nr⟩
theorem Vx.lt (h : Vx Y R B w x fp O E) : ∀ k ∈ fp, B ≤ k ∧ k < w.heap.size ∧ ¬ R k := by
  obtain ⟨d, s, S, W, D, wv, cv, iv, pv, rfl, h, _⟩ := h
  exact h.lt
theorem Vx.in (h : Vx Y R B w x fp O E) : x ∈ fp := by
  obtain ⟨d, s, S, W, D, wv, cv, iv, pv, rfl, h, _⟩ := h
  exact mem_fpV.2 (.inl rfl)
theorem Vx.mIn (h : Vx Y R B w x fp O E) : O.m ∈ fp := by
  obtain ⟨d, s, S, W, D, wv, cv, iv, pv, rfl, h, _⟩ := h
  exact mem_fpV.2 (.inr (.inl rfl))
theorem Vx.keep (h : Vx Y R B w x fp O E) (hk : Keep fp2 w w') (hn : ∀ k ∈ fp2, ¬ R k ∧ k ∉ fp) : Vx Y R B w' x fp O E := by
  obtain ⟨d, s, S, W, D, wv, cv, iv, pv, rfl, h, he⟩ := h
  exact ⟨d, s, S, W, D, wv, cv, iv, pv, rfl, h.keep hk hn, he⟩
theorem Vx.keep0 (h : Vx Y R B w x fp O E) (hk : Keep [] w w') : Vx Y R B w' x fp O E := h.keep hk fun k hk => by cases hk
theorem Vx.mono (h : Vx Y R B w x fp O E) (he : ∀ W, W.length = 112 → E W → E' W) : Vx Y R B w x fp O E' := by
  obtain ⟨d, s, S, W, D, wv, cv, iv, pv, rfl, h, e⟩ := h
  exact ⟨d, s, S, W, D, wv, cv, iv, pv, rfl, h, he W h.st.mem.wl e.1, e.2⟩
theorem Vx.ptr (h : Vx Y R B w x fp O E) : w.cell? ⟨x, 0, none⟩ = some (.pointer (some ⟨O.m, 0, none⟩)) := by
  obtain ⟨d, s, S, W, D, wv, cv, iv, pv, rfl, h, _⟩ := h
  exact h.blk.cell rfl
theorem Vx.prt (h : Vx Y R B w x fp O E) : w.cell? ⟨x, 3, none⟩ = some (.pointer (some ⟨O.q, 0, none⟩)) := by
  obtain ⟨d, s, S, W, D, wv, cv, iv, pv, rfl, h, _⟩ := h
  exact h.blk.cell rfl
theorem Vx.bk (h : Vx Y R B w x fp O E) : ∃ cv iv, Blk w x (maC O.m cv iv O.q O.left O.torn) tMa ∧ InsV R w cv O.L ∧ RowL w B iv O.inp ∧ ∀ k, R k → k < w.heap.size := by
  obtain ⟨d, s, S, W, D, wv, cv, iv, pv, rfl, h, _⟩ := h
  exact ⟨cv, iv, h.blk, h.code, h.inp, h.pr.ro⟩
theorem Vx.load (h : Vx Y R B w x fp O E) (i : Int) (v : Int) (he : ∀ W, W.length = 112 → E W → loadW W i = v) : Ret Tryz.prog 46 [.pointer (some ⟨O.m, 0, none⟩), .int .i64 i] w fun r w' => r = .int .i64 v ∧ w' = w := by
  obtain ⟨d, s, S, W, D, wv, cv, iv, pv, rfl, h, e⟩ := h
  rw [← he W h.st.mem.wl e.1]
  exact load_ret h.st.mem i
theorem Vx.put (h : Vx Y R B w x fp O E) (i v : Int) (he : ∀ W, W.length = 112 → E W → E' (putW W i v)) : Ret Tryz.prog 60 [.pointer (some ⟨O.m, 0, none⟩), .int .i64 i, .int .i64 v] w fun r w' => r = .bool (hasM i) ∧ Vx Y R B w' x fp O E' ∧ Keep [O.m] w w' := by
  obtain ⟨d, s, S, W, D, wv, cv, iv, pv, rfl, h, e⟩ := h
  refine (puts_ret h.st i v).mono ?_
  rintro r w1 ⟨rfl, h1, hk1⟩
  refine ⟨rfl, ⟨d, s, S, _, _, wv, cv, iv, pv, rfl, ⟨h1, h.hs, h.gen, ?_, ?_, ?_, ?_, h.hx, h.apt, h.nr⟩, he W h.st.mem.wl e.1, e.2⟩, hk1⟩
  · refine h.pr.keep hk1 fun k hm hq => ?_
    rw [List.mem_singleton.1 hm] at hq
    rcases List.mem_cons.1 hq with hq | hq
    · exact Blk.ne h.st.mem.blk h.pr.blk (by decide) hq
    · exact h.pr.row.ne h.st.mem.blk (by decide) _ hq (by simp)
  · exact hk1.blk h.blk (by simp; exact Blk.ne h.blk h.st.mem.blk (by decide))
  · refine h.code.keep hk1 fun c hR => ⟨h.pr.ro c hR, fun hm => ?_⟩
    rw [List.mem_singleton.1 hm] at hR
    exact h.nr _ (mem_fpV.2 (.inr (.inl rfl))) hR
  · exact h.inp.keep hk1 (h.inp.ne h.st.mem.blk (by decide))
end

/-! ### Its words -/
theorem loadW_at {W : List Int} {i : Nat} {v : Int} (h : W[i]? = some v) (hi : i < 112) : loadW W ((i : Nat) : Int) = v := by
  have hm : hasM ((i : Nat) : Int) = true := by simp [hasM]; omega
  unfold loadW
  rw [hm, if_pos rfl, Int.toNat_natCast, List.getD_eq_getElem?_getD, h]
  rfl
theorem putW_at (W : List Int) {i : Nat} (v : Int) (hi : i < 112) : putW W ((i : Nat) : Int) v = W.set i v := by
  have hm : hasM ((i : Nat) : Int) = true := by simp [hasM]; omega
  unfold putW
  rw [hm, if_pos rfl, Int.toNat_natCast]
theorem set_at {W : List Int} (hl : W.length = 112) {i : Nat} (hi : i < 112) (v : Int) : (W.set i v)[i]? = some v := by
  rw [List.getElem?_set, if_pos rfl, if_pos (by omega)]
theorem set_off {W : List Int} {i j : Nat} (h : i ≠ j) (v : Int) : (W.set i v)[j]? = W[j]? := by rw [List.getElem?_set, if_neg h]
section
variable {W : List Int} {m : Md}
theorem enc_next (h : Enc W m) (hl : W.length = 112) (n : Nat) : Enc (W.set 0 (n : Int)) { m with next := n } :=
  ⟨set_at hl (by decide) _, (set_off (by decide) _).trans h.many, (set_off (by decide) _).trans h.read, (set_off (by decide) _).trans h.out, (set_off (by decide) _).trans h.state, fun i x hi => (set_off (by omega) _).trans (h.cells i x hi), fun i x hi => (set_off (by omega) _).trans (h.stack i x hi)⟩
theorem enc_many (h : Enc W m) (hl : W.length = 112) {s : List Int} {k : Int} (hk : k = (s.length : Nat)) (hs : ∀ i x, s[i]? = some x → W[53 + i]? = some x) : Enc (W.set 1 k) { m with stack := s } :=
  ⟨(set_off (by decide) _).trans h.next, by rw [set_at hl (by decide), hk], (set_off (by decide) _).trans h.read, (set_off (by decide) _).trans h.out, (set_off (by decide) _).trans h.state, fun i x hi => (set_off (by omega) _).trans (h.cells i x hi), fun i x hi => (set_off (by omega) _).trans (hs i x hi)⟩
theorem enc_read (h : Enc W m) (hl : W.length = 112) {k : Int} {n : Nat} (hk : k = (n : Nat)) : Enc (W.set 2 k) { m with read := n } :=
  ⟨(set_off (by decide) _).trans h.next, (set_off (by decide) _).trans h.many, by rw [set_at hl (by decide), hk], (set_off (by decide) _).trans h.out, (set_off (by decide) _).trans h.state, fun i x hi => (set_off (by omega) _).trans (h.cells i x hi), fun i x hi => (set_off (by omega) _).trans (h.stack i x hi)⟩
theorem enc_out (h : Enc W m) (hl : W.length = 112) {k : Int} {n : Nat} (hk : k = (n : Nat)) : Enc (W.set 3 k) { m with out := n } :=
  ⟨(set_off (by decide) _).trans h.next, (set_off (by decide) _).trans h.many, (set_off (by decide) _).trans h.read, by rw [set_at hl (by decide), hk], (set_off (by decide) _).trans h.state, fun i x hi => (set_off (by omega) _).trans (h.cells i x hi), fun i x hi => (set_off (by omega) _).trans (h.stack i x hi)⟩
theorem enc_state (h : Enc W m) (hl : W.length = 112) {k : Int} {n : Nat} (hk : k = (n : Nat)) : Enc (W.set 4 k) { m with state := n } :=
  ⟨(set_off (by decide) _).trans h.next, (set_off (by decide) _).trans h.many, (set_off (by decide) _).trans h.read, (set_off (by decide) _).trans h.out, by rw [set_at hl (by decide), hk], fun i x hi => (set_off (by omega) _).trans (h.cells i x hi), fun i x hi => (set_off (by omega) _).trans (h.stack i x hi)⟩
theorem enc_cell (h : Enc W m) (hl : W.length = 112) (hc : m.cells.length ≤ 48) {a : Nat} (ha : a < m.cells.length) (n : Int) : Enc (W.set (5 + a) n) { m with cells := m.cells.set a n } := by
  refine ⟨(set_off (by omega) _).trans h.next, (set_off (by omega) _).trans h.many, (set_off (by omega) _).trans h.read, (set_off (by omega) _).trans h.out, (set_off (by omega) _).trans h.state, fun i x hi => ?_, fun i x hi => (set_off (by omega) _).trans (h.stack i x hi)⟩
  simp only [List.getElem?_set] at hi
  by_cases e : a = i
  · subst e
    rw [if_pos rfl, if_pos ha] at hi
    cases hi
    exact set_at hl (by omega) _
  · rw [if_neg e] at hi
    exact (set_off (by omega) _).trans (h.cells i x hi)
theorem enc_top (h : Enc W m) (hc : m.cells.length ≤ 48) (n : Int) : Enc (W.set (53 + m.stack.length) n) m := by
  refine ⟨(set_off (by omega) _).trans h.next, (set_off (by omega) _).trans h.many, (set_off (by omega) _).trans h.read, (set_off (by omega) _).trans h.out, (set_off (by omega) _).trans h.state, fun i x hi => ?_, fun i x hi => ?_⟩
  · have := (List.getElem?_eq_some_iff.1 hi).1
    exact (set_off (by omega) _).trans (h.cells i x hi)
  · have := (List.getElem?_eq_some_iff.1 hi).1
    exact (set_off (by omega) _).trans (h.stack i x hi)
end

section
variable {Z W : List Int} {m : Md}
theorem ena_next (h : Ena Z W m) (hl : W.length = 112) (n : Nat) : Ena Z (W.set 0 (n : Int)) { m with next := n } := ⟨enc_next h.toEnc hl n, fun j hj => (set_off (by omega) _).trans (h.agr j hj)⟩
theorem ena_read (h : Ena Z W m) (hl : W.length = 112) {k : Int} {n : Nat} (hk : k = (n : Nat)) : Ena Z (W.set 2 k) { m with read := n } := ⟨enc_read h.toEnc hl hk, fun j hj => (set_off (by omega) _).trans (h.agr j hj)⟩
theorem ena_out (h : Ena Z W m) (hl : W.length = 112) {k : Int} {n : Nat} (hk : k = (n : Nat)) : Ena Z (W.set 3 k) { m with out := n } := ⟨enc_out h.toEnc hl hk, fun j hj => (set_off (by omega) _).trans (h.agr j hj)⟩
theorem ena_state (h : Ena Z W m) (hl : W.length = 112) {k : Int} {n : Nat} (hk : k = (n : Nat)) : Ena Z (W.set 4 k) { m with state := n } := ⟨enc_state h.toEnc hl hk, fun j hj => (set_off (by omega) _).trans (h.agr j hj)⟩
theorem ena_cell (h : Ena Z W m) (hl : W.length = 112) (hc : m.cells.length ≤ 48) {a : Nat} (ha : a < m.cells.length) (n : Int) : Ena Z (W.set (5 + a) n) { m with cells := m.cells.set a n } :=
  ⟨enc_cell h.toEnc hl hc ha n, fun j hj => by
    have hj : 5 + (m.cells.set a n).length ≤ j := hj
    rw [List.length_set] at hj
    exact (set_off (by omega) _).trans (h.agr j hj)⟩
end

/-! ### Its methods -/
theorem built_mi (a : Int) : Tryz.prog.built 79 [(0, .int .i64 a)] = some (iC (a, 0, 0, 0)).toArray := by kernel_rfl
theorem zero_mis : ((Tryz.prog.info? 79).bind (·.zero)).map (·.cells) = some (iC (0, 0, 0, 0)).toArray := by kernel_rfl
theorem size_mis : sizeOk Tryz.prog 79 4 = true := by kernel_rfl
section
variable {Y : Nat → List Int → Prop} {Z : List Int} {R : Nat → Prop} {B : Nat} {w : World} {x : Nat} {fp : List Nat} {M : Mx}

theorem Vm.b (h : Vm Y Z R B w x fp M) : Vp Y Z R B w x fp M := Vx.mono h fun _ _ e => e.b
theorem goes_ret (h : Vm Y Z R B w x fp M) : Ret Tryz.prog 28 [.pointer (some ⟨x, 0, none⟩)] w fun r w' => r = .bool (decide (M.md.state = 0)) ∧ w' = w := by
  refine ret_of 9 Tryz.func28 rfl rfl (by simp) ?_
  refine au ?_
  refine pl_val _ rfl rfl (val_load1 hT rfl rfl rfl (h.ptr)) ?_
  refine pl_op rfl rfl (opTo_call (fst := []) (cap := []) rfl rfl rfl rfl (by decide +kernel) ((h.load 4 (M.md.state : Nat) fun W hl e => loadW_at e.state (by decide)).mono ?_))
  rintro r w1 ⟨rfl, hww⟩
  rw [hww]
  by_cases hs : M.md.state = 0
  · refine ye ?_
    refine au ?_
    exact rn_ret Tryz.func28 (.inl ⟨_, rfl, rfl⟩) ⟨by simp [hs], rfl⟩
  · refine nay ?_
    refine au ?_
    exact rn_ret Tryz.func28 (.inl ⟨_, rfl, rfl⟩) ⟨by simp [hs], rfl⟩

theorem mcnext_ret (h : Vm Y Z R B w x fp M) {i : Is} (hi : M.L[M.md.next]? = some i) : Ret Tryz.prog 29 [.pointer (some ⟨x, 0, none⟩)] w fun r w' => r = .agg (iC i).toArray ∧ Keep [] w w' := by
  have hn : M.md.next < M.L.length := (List.getElem?_eq_some_iff.1 hi).1
  refine ret_of 28 Tryz.func29 rfl rfl (by simp) ?_
  refine au ?_
  refine pl_op rfl rfl (opTo_allocN _ rfl zero_mis ?_)
  intro w1 x1 hx1 hs1 hk1 hb1
  have h1 := h.keep0 hk1
  obtain ⟨cv, iv, hbk, hcd, _, hro⟩ := h1.bk
  obtain ⟨cb, cq, ccap, rfl, hcF, hcr⟩ := hcd.at hi
  refine au ?_
  refine pl_val _ rfl rfl (val_load1 hT rfl rfl rfl (h1.ptr)) ?_
  refine pl_op rfl rfl (opTo_call (fst := []) (cap := []) rfl rfl rfl rfl (by decide +kernel) ((h1.load 0 (M.md.next : Nat) fun W hl e => loadW_at e.next (by decide)).mono ?_))
  rintro r w1' ⟨rfl, hww⟩
  rw [hww]
  refine au ?_
  refine nay ?_
  refine au ?_
  refine pl_val _ rfl rfl (val_load1 hT rfl rfl rfl (hbk.cell rfl)) ?_
  refine au ?_
  have hn' : M.md.next < M.o.L.length := hn
  refine nay ?_
  refine au ?_
  refine pl_val _ rfl rfl (val_load1 hT rfl rfl rfl (hbk.cell rfl)) ?_
  refine au ?_
  refine pl_val _ rfl rfl (val_index M.md.next hT rfl rfl rfl rfl rfl hn' w1) ?_
  refine pl_val (.agg (iC i).toArray) rfl rfl (val_load (iC i) hT rfl rfl rfl hcr) ?_
  refine pl_op rfl rfl (opTo_storeN (iC i) rfl rfl rfl rfl size_mis hb1 (by simp [iC]) (iC_one _) ?_)
  intro w2 hs2 hk2 hb2
  rw [splice_whole (by rfl)] at hb2
  refine au ?_
  exact rn_ret Tryz.func29 (.inr (.inr (.inl ⟨_, _, _, rfl, rfl, blk_loadVar hT hb2 rfl⟩))) ⟨rfl, hk1.trB hk2 (by omega)⟩

theorem mpush_ret (h : Vm Y Z R B w x fp M) (hs : M.md.stack.length ≤ 58) (hc : M.md.cells.length ≤ 48) (n : Int) : Ret Tryz.prog 80 [.pointer (some ⟨x, 0, none⟩), .int .i64 n] w fun r w' => r = .tuple #[] ∧ Vp Y Z R B w' x fp { M with md := { M.md with stack := M.md.stack ++ [n] } } ∧ Keep [M.m] w w' := by
  refine ret_of 25 Tryz.func80 rfl rfl (by simp) ?_
  refine au ?_
  refine pl_val _ rfl rfl (val_load1 hT rfl rfl rfl (h.ptr)) ?_
  refine pl_op rfl rfl (opTo_call (fst := []) (cap := []) rfl rfl rfl rfl (by decide +kernel) ((h.load 1 (M.md.stack.length : Nat) fun W hl e => loadW_at e.many (by decide)).mono ?_))
  rintro r w1 ⟨rfl, hww⟩
  rw [hww]
  refine au ?_
  refine pl_val _ rfl rfl (val_load1 hT rfl rfl rfl (h.ptr)) ?_
  refine au ?_
  refine pl_num (((53 + M.md.stack.length : Nat) : Int)) rfl rfl rfl rfl rfl (by simp only [ariP]; omega) ?_
  refine au ?_
  refine pl_op rfl rfl (opTo_call (fst := []) (cap := []) rfl rfl rfl rfl (by decide +kernel) ((h.put (E' := fun W => Enc W M.md ∧ W[53 + M.md.stack.length]? = some n ∧ ∀ j, 5 + M.md.cells.length ≤ j → j ≠ 53 + M.md.stack.length → W[j]? = Z[j]?) ((53 + M.md.stack.length : Nat) : Int) n fun W hl e => by
    rw [putW_at W n (by omega)]
    exact ⟨enc_top e.toEnc hc n, set_at hl (by omega) n, fun j hj hne => (set_off (by omega) _).trans (e.agr j hj)⟩).mono ?_))
  rintro r w2 ⟨rfl, h2, hk2⟩
  refine au ?_
  refine pl_val _ rfl rfl (val_load1 hT rfl rfl rfl (h2.ptr)) ?_
  refine au ?_
  refine pl_num (((M.md.stack.length + 1 : Nat) : Int)) rfl rfl rfl rfl rfl (by simp only [ariP]; omega) ?_
  refine pl_op rfl rfl (opTo_call (fst := []) (cap := []) rfl rfl rfl rfl (by decide +kernel) ((h2.put (E' := fun W => Enb Z W { M.md with stack := M.md.stack ++ [n] }) 1 ((M.md.stack.length + 1 : Nat) : Int) fun W hl e => by
    rw [show (1 : Int) = ((1 : Nat) : Int) from rfl, putW_at W _ (by decide)]
    refine ⟨enc_many e.1 hl (by simp) fun i v hi => ?_, fun j hj hf => (set_off (by omega) _).trans (e.2.2 j hj (by simp only [List.length_append, List.length_cons, List.length_nil] at hf; omega))⟩
    rw [List.getElem?_append] at hi
    split at hi
    · exact e.1.stack i v hi
    · have hj := (List.getElem?_eq_some_iff.1 hi).1
      simp only [List.length_cons, List.length_nil] at hj
      rw [show i - M.md.stack.length = 0 by omega] at hi
      rw [show i = M.md.stack.length by omega, e.2.1]
      exact hi).mono ?_))
  rintro r w3 ⟨rfl, h3, hk3⟩
  refine au ?_
  exact rn_end Tryz.func80 (.inr (.inl ⟨rfl, rfl⟩)) ⟨rfl, h3, hk2.tr hk3⟩

theorem mpop_ret (h : Vm Y Z R B w x fp M) (h0 : 1 ≤ M.md.stack.length) (hs : M.md.stack.length ≤ 59) : Ret Tryz.prog 82 [.pointer (some ⟨x, 0, none⟩)] w fun r w' => r = .int .i64 (topS M.md.stack) ∧ Vm Y Z R B w' x fp { M with md := { M.md with stack := M.md.stack.dropLast } } ∧ Keep [M.m] w w' := by
  obtain ⟨k, hk⟩ : ∃ k, M.md.stack.length = k + 1 := ⟨M.md.stack.length - 1, by omega⟩
  refine ret_of 23 Tryz.func82 rfl rfl (by simp) ?_
  refine au ?_
  refine pl_val _ rfl rfl (val_load1 hT rfl rfl rfl (h.ptr)) ?_
  refine pl_op rfl rfl (opTo_call (fst := []) (cap := []) rfl rfl rfl rfl (by decide +kernel) ((h.load 1 (M.md.stack.length : Nat) fun W hl e => loadW_at e.many (by decide)).mono ?_))
  rintro r w1 ⟨rfl, hww⟩
  rw [hww]
  refine pl_num (((k : Nat) : Int)) rfl rfl rfl rfl rfl (by simp only [ariP]; omega) ?_
  refine au ?_
  refine pl_val _ rfl rfl (val_load1 hT rfl rfl rfl (h.ptr)) ?_
  refine au ?_
  refine pl_op rfl rfl (opTo_call (fst := []) (cap := []) rfl rfl rfl rfl (by decide +kernel) ((h.put (E' := fun W => Ena Z W { M.md with stack := M.md.stack.dropLast } ∧ W[53 + k]? = some (topS M.md.stack)) 1 ((k : Nat) : Int) fun W hl e => by
    rw [show (1 : Int) = ((1 : Nat) : Int) from rfl, putW_at W _ (by decide)]
    refine ⟨⟨enc_many e.toEnc hl (by simp; omega) fun i v hi => ?_, fun j hj => (set_off (by omega) _).trans (e.agr j hj)⟩, (set_off (by omega) _).trans (e.stack k _ (topS_at hk))⟩
    rw [List.getElem?_dropLast] at hi
    split at hi
    · exact e.stack i v hi
    · cases hi).mono ?_))
  rintro r w2 ⟨rfl, h2, hk2⟩
  refine au ?_
  refine pl_val _ rfl rfl (val_load1 hT rfl rfl rfl (h2.ptr)) ?_
  refine au ?_
  refine pl_num (((53 + k : Nat) : Int)) rfl rfl rfl rfl rfl (by simp only [ariP]; omega) ?_
  refine pl_op rfl rfl (opTo_call (fst := []) (cap := []) rfl rfl rfl rfl (by decide +kernel) ((h2.load ((53 + k : Nat) : Int) (topS M.md.stack) fun W hl e => loadW_at e.2 (by omega)).mono ?_))
  rintro r w3 ⟨rfl, hww⟩
  rw [hww]
  refine au ?_
  exact rn_ret Tryz.func82 (.inl ⟨_, rfl, rfl⟩) ⟨rfl, h2.mono fun W _ e => e.1, hk2⟩

theorem mcell_at (h : Vm Y Z R B w x fp M) (hc : M.md.cells.length ≤ 48) {a : Nat} (ha : a < M.md.cells.length) : Ret Tryz.prog 49 [.pointer (some ⟨x, 0, none⟩), .int .i64 (a : Nat)] w fun r w' => r = .int .i64 (cellAt M.md.cells ((a : Nat) : Int)) ∧ w' = w := by
  refine ret_of 12 Tryz.func49 rfl rfl (by simp) ?_
  refine au ?_
  refine pl_val _ rfl rfl (val_load1 hT rfl rfl rfl (h.ptr)) ?_
  refine au ?_
  refine pl_num (((5 + a : Nat) : Int)) rfl rfl rfl rfl rfl (by simp only [ariP]; omega) ?_
  refine pl_op rfl rfl (opTo_call (fst := []) (cap := []) rfl rfl rfl rfl (by decide +kernel) ((h.load ((5 + a : Nat) : Int) (cellAt M.md.cells ((a : Nat) : Int)) fun W hl e => loadW_at (e.cells a _ (cellAt_nat ha)) (by omega)).mono ?_))
  rintro r w1 ⟨rfl, hww⟩
  rw [hww]
  refine au ?_
  exact rn_ret Tryz.func49 (.inl ⟨_, rfl, rfl⟩) ⟨rfl, rfl⟩

theorem msetCell_ret (h : Vm Y Z R B w x fp M) (hc : M.md.cells.length ≤ 48) {a : Nat} (ha : a < M.md.cells.length) (n : Int) : Ret Tryz.prog 84 [.pointer (some ⟨x, 0, none⟩), .int .i64 (a : Nat), .int .i64 n] w fun r w' => r = .tuple #[] ∧ Vm Y Z R B w' x fp { M with md := { M.md with cells := M.md.cells.set a n } } ∧ Keep [M.m] w w' := by
  refine ret_of 14 Tryz.func84 rfl rfl (by simp) ?_
  refine au ?_
  refine pl_val _ rfl rfl (val_load1 hT rfl rfl rfl (h.ptr)) ?_
  refine au ?_
  refine pl_num (((5 + a : Nat) : Int)) rfl rfl rfl rfl rfl (by simp only [ariP]; omega) ?_
  refine au ?_
  refine pl_op rfl rfl (opTo_call (fst := []) (cap := []) rfl rfl rfl rfl (by decide +kernel) ((h.put (E' := fun W => Ena Z W { M.md with cells := M.md.cells.set a n }) ((5 + a : Nat) : Int) n fun W hl e => by
    rw [putW_at W n (by omega)]
    exact ena_cell e hl hc ha n).mono ?_))
  rintro r w2 ⟨rfl, h2, hk2⟩
  refine au ?_
  exact rn_end Tryz.func84 (.inr (.inl ⟨rfl, rfl⟩)) ⟨rfl, h2, hk2⟩

theorem mjump_ret (h : Vm Y Z R B w x fp M) (t : Nat) : Ret Tryz.prog 88 [.pointer (some ⟨x, 0, none⟩), .int .i64 (t : Nat)] w fun r w' => r = .tuple #[] ∧ Vm Y Z R B w' x fp { M with md := { M.md with next := t } } ∧ Keep [M.m] w w' := by
  refine ret_of 10 Tryz.func88 rfl rfl (by simp) ?_
  refine au ?_
  refine pl_val _ rfl rfl (val_load1 hT rfl rfl rfl (h.ptr)) ?_
  refine au ?_
  refine pl_op rfl rfl (opTo_call (fst := []) (cap := []) rfl rfl rfl rfl (by decide +kernel) ((h.put (E' := fun W => Ena Z W { M.md with next := t }) 0 (t : Nat) fun W hl e => by
    rw [show (0 : Int) = ((0 : Nat) : Int) from rfl, putW_at W _ (by decide)]
    exact ena_next e hl t).mono ?_))
  rintro r w2 ⟨rfl, h2, hk2⟩
  refine au ?_
  exact rn_end Tryz.func88 (.inr (.inl ⟨rfl, rfl⟩)) ⟨rfl, h2, hk2⟩

theorem mstop_ret (h : Vm Y Z R B w x fp M) (t : Nat) (ht : t ≤ 1000) : Ret Tryz.prog 96 [.pointer (some ⟨x, 0, none⟩), .int .i64 (t : Nat)] w fun r w' => r = .tuple #[] ∧ Vm Y Z R B w' x fp { M with md := { M.md with state := t + 2 } } ∧ Keep [M.m] w w' := by
  refine ret_of 11 Tryz.func96 rfl rfl (by simp) ?_
  refine au ?_
  refine pl_val _ rfl rfl (val_load1 hT rfl rfl rfl (h.ptr)) ?_
  refine au ?_
  refine pl_num (((t + 2 : Nat) : Int)) rfl rfl rfl rfl rfl (by simp only [ariP]; omega) ?_
  refine pl_op rfl rfl (opTo_call (fst := []) (cap := []) rfl rfl rfl rfl (by decide +kernel) ((h.put (E' := fun W => Ena Z W { M.md with state := t + 2 }) 4 ((t + 2 : Nat) : Int) fun W hl e => by
    rw [show (4 : Int) = ((4 : Nat) : Int) from rfl, putW_at W _ (by decide)]
    exact ena_state e hl rfl).mono ?_))
  rintro r w2 ⟨rfl, h2, hk2⟩
  refine au ?_
  exact rn_end Tryz.func96 (.inr (.inl ⟨rfl, rfl⟩)) ⟨rfl, h2, hk2⟩
end
end E
end Go.Proofs.YtmplkogkphmmjagGreat

/- The landed machine: contracts of truth, reckon, says, getCell, putCell, print, read. -/
namespace Go.Proofs.YtmplkogkphmmjagGreat
set_option maxRecDepth 20000
set_option maxHeartbeats 4000000
namespace E
open Go.Proofs

theorem mtruth_ret (b : Bool) (w : World) : Ret Tryz.prog 97 [.bool b] w fun r w' => r = .int .i64 (bitI b) ∧ w' = w := by
  refine ret_of 4 Tryz.func97 rfl rfl (by simp) ?_
  cases b
  · refine au ?_
    exact rn_ret Tryz.func97 (.inl ⟨_, rfl, rfl⟩) ⟨rfl, rfl⟩
  · refine au ?_
    exact rn_ret Tryz.func97 (.inl ⟨_, rfl, rfl⟩) ⟨rfl, rfl⟩

theorem mreckon_ret (op a b : Int) (hop : 4 ≤ op ∧ op ≤ 8) (w : World) : Ret Tryz.prog 83 [.int .i64 op, .int .i64 a, .int .i64 b] w fun r w' => r = .int .i64 (ariI op a b) ∧ w' = w := by
  have hc : op = 4 ∨ op = 5 ∨ op = 6 ∨ op = 7 ∨ op = 8 := by omega
  refine ret_of 33 Tryz.func83 rfl rfl (by simp) ?_
  rcases hc with rfl | rfl | rfl | rfl | rfl
  · have he : ariI 4 a b = IntKind.i64.wrap (a + b) := if_pos rfl
    rw [he]
    generalize hz : IntKind.i64.wrap (a + b) = z
    refine aub ?_
    refine pl_val (.int .i64 z) rfl rfl (val_int .i64 a b _ rfl rfl rfl (by rw [← hz]; simp only [intOp]) w) ?_
    refine au ?_
    exact rn_ret Tryz.func83 (.inl ⟨_, rfl, rfl⟩) ⟨rfl, rfl⟩
  · have he : ariI 5 a b = IntKind.i64.wrap (a - b) := by unfold ariI; rw [if_neg (by decide), if_pos rfl]
    rw [he]
    generalize hz : IntKind.i64.wrap (a - b) = z
    refine aub ?_
    refine pl_val (.int .i64 z) rfl rfl (val_int .i64 a b _ rfl rfl rfl (by rw [← hz]; simp only [intOp]) w) ?_
    refine au ?_
    exact rn_ret Tryz.func83 (.inl ⟨_, rfl, rfl⟩) ⟨rfl, rfl⟩
  · have he : ariI 6 a b = IntKind.i64.wrap (a * b) := by unfold ariI; rw [if_neg (by decide), if_neg (by decide), if_pos rfl]
    rw [he]
    generalize hz : IntKind.i64.wrap (a * b) = z
    refine aub ?_
    refine pl_val (.int .i64 z) rfl rfl (val_int .i64 a b _ rfl rfl rfl (by rw [← hz]; simp only [intOp]) w) ?_
    refine au ?_
    exact rn_ret Tryz.func83 (.inl ⟨_, rfl, rfl⟩) ⟨rfl, rfl⟩
  · refine aub ?_
    have he : ariI 7 a b = bitI (decide (a < b)) := by unfold ariI; rw [if_neg (by decide), if_neg (by decide), if_neg (by decide), if_pos rfl]
    by_cases hl : a < b
    · refine ye ?_
      refine pl_op rfl rfl (opTo_call (fst := []) (cap := []) rfl rfl rfl rfl (by decide +kernel) ((mtruth_ret true w).mono ?_))
      rintro r w1 ⟨rfl, hww⟩
      rw [hww]
      refine au ?_
      exact rn_ret Tryz.func83 (.inl ⟨_, rfl, rfl⟩) ⟨by rw [he]; simp [hl], rfl⟩
    · refine nay ?_
      refine pl_op rfl rfl (opTo_call (fst := []) (cap := []) rfl rfl rfl rfl (by decide +kernel) ((mtruth_ret false w).mono ?_))
      rintro r w1 ⟨rfl, hww⟩
      rw [hww]
      refine au ?_
      exact rn_ret Tryz.func83 (.inl ⟨_, rfl, rfl⟩) ⟨by rw [he]; simp [hl], rfl⟩
  · refine aub ?_
    have he : ariI 8 a b = bitI (a == b) := by unfold ariI; rw [if_neg (by decide), if_neg (by decide), if_neg (by decide), if_neg (by decide)]
    by_cases hl : a = b
    · refine ye ?_
      refine pl_op rfl rfl (opTo_call (fst := []) (cap := []) rfl rfl rfl rfl (by decide +kernel) ((mtruth_ret true w).mono ?_))
      rintro r w1 ⟨rfl, hww⟩
      rw [hww]
      refine au ?_
      exact rn_ret Tryz.func83 (.inl ⟨_, rfl, rfl⟩) ⟨by rw [he, hl, beq_self_eq_true], rfl⟩
    · refine nay ?_
      refine pl_op rfl rfl (opTo_call (fst := []) (cap := []) rfl rfl rfl rfl (by decide +kernel) ((mtruth_ret false w).mono ?_))
      rintro r w1 ⟨rfl, hww⟩
      rw [hww]
      refine au ?_
      exact rn_ret Tryz.func83 (.inl ⟨_, rfl, rfl⟩) ⟨by rw [he, beq_eq_false_iff_ne.2 hl], rfl⟩

def sayB (k n : Int) : Bool := decide (0 ≤ n ∧ n < k)
theorem msays_ret (i : Is) (n : Int) (w : World) : Ret Tryz.prog 95 [.agg (iC i).toArray, .int .i64 n] w fun r w' => r = .bool (sayB i.2.2.1 n) ∧ Keep [] w w' := by
  refine ret_of 13 Tryz.func95 rfl rfl (by simp) ?_
  refine au ?_
  refine pl_op rfl rfl (opTo_boxN (iC i) rfl rfl rfl ?_)
  intro w1 x1 hx1 hs1 hk1 hb1
  refine au ?_
  by_cases h0 : 0 ≤ n
  · refine ye ?_
    refine au ?_
    refine pl_val _ rfl rfl (val_load1 hT rfl rfl rfl (hb1.cell rfl)) ?_
    by_cases h1 : n < i.2.2.1
    · refine ye ?_
      refine au ?_
      exact rn_ret Tryz.func95 (.inl ⟨_, rfl, rfl⟩) ⟨by simp [sayB, h0, h1], hk1⟩
    · refine nay ?_
      refine au ?_
      exact rn_ret Tryz.func95 (.inl ⟨_, rfl, rfl⟩) ⟨by simp [sayB, h1], hk1⟩
  · refine nay ?_
    refine au ?_
    exact rn_ret Tryz.func95 (.inl ⟨_, rfl, rfl⟩) ⟨by simp [sayB, h0], hk1⟩

section
variable {Y : Nat → List Int → Prop} {Z : List Int} {R : Nat → Prop} {B : Nat} {w : World} {x : Nat} {fp : List Nat} {M : Mx}

theorem mgetCell_ret (h : Vm Y Z R B w x fp M) (i : Is) (h1 : 1 ≤ M.md.stack.length) (hs : M.md.stack.length ≤ 24) (hc : M.md.cells.length ≤ 48) (hA : 0 ≤ i.2.1) (hAB : i.2.1 + i.2.2.1 ≤ (M.md.cells.length : Int)) :
    Ret Tryz.prog 81 [.pointer (some ⟨x, 0, none⟩), .agg (iC i).toArray] w fun r w' => r = .tuple #[] ∧ Keep [M.m] w w' ∧
      Vp Y Z R B w' x fp { M with md := if 0 ≤ topS M.md.stack ∧ topS M.md.stack < i.2.2.1 then { M.md with stack := M.md.stack.dropLast ++ [cellAt M.md.cells (i.2.1 + topS M.md.stack)] } else { M.md with stack := M.md.stack.dropLast, state := 13 } } := by
  refine ret_of 21 Tryz.func81 rfl rfl (by simp) ?_
  refine au ?_
  refine pl_op rfl rfl (opTo_boxN (iC i) rfl rfl rfl ?_)
  intro w1 x1 hx1 hs1 hk1 hb1
  have hml := (h.lt _ h.mIn).2.1
  have hmx : x1 ∉ [M.m] := by
    intro hm
    have hm : x1 = M.o.m := List.mem_singleton.1 hm
    omega
  refine au ?_
  refine pl_op rfl rfl (opTo_call (fst := []) (cap := []) rfl rfl rfl rfl (by decide +kernel) ((mpop_ret (Vx.keep0 h hk1) h1 (by omega)).mono ?_))
  rintro r w2 ⟨rfl, h2, hk2⟩
  have hb2 := hk2.blk hb1 hmx
  refine au ?_
  refine pl_val (.agg (iC i).toArray) rfl rfl (val_load (iC i) hT rfl rfl rfl (hb2.range (by rfl))) ?_
  refine au ?_
  refine pl_op rfl rfl (opTo_call (fst := []) (cap := []) rfl rfl rfl rfl (by decide +kernel) ((msays_ret i (topS M.md.stack) w2).mono ?_))
  rintro r w3 ⟨rfl, hk3⟩
  have h3 := Vx.keep0 h2 hk3
  have hb3 := hk3.blk hb2 (by simp)
  have hk13 : Keep [M.m] w1 w3 := hk2.tr0 hk3
  by_cases hc0 : 0 ≤ topS M.md.stack ∧ topS M.md.stack < i.2.2.1
  · rw [if_pos hc0]
    rw [show sayB i.2.2.1 (topS M.md.stack) = true by simp [sayB, hc0]]
    obtain ⟨a, ha⟩ : ∃ a : Nat, i.2.1 + topS M.md.stack = (a : Nat) := ⟨(i.2.1 + topS M.md.stack).toNat, by omega⟩
    refine au ?_
    refine pl_val _ rfl rfl (val_load1 hT rfl rfl rfl (hb3.cell rfl)) ?_
    refine au ?_
    refine pl_num (((a : Nat) : Int)) rfl rfl rfl rfl rfl (by simp only [ariP]; omega) ?_
    refine pl_op rfl rfl (opTo_call (fst := []) (cap := []) rfl rfl rfl rfl (by decide +kernel) ((mcell_at h3 hc (a := a) (by show a < M.md.cells.length; omega)).mono ?_))
    rintro r w4 ⟨rfl, hww⟩
    rw [hww]
    refine pl_op rfl rfl (opTo_call (fst := []) (cap := []) rfl rfl rfl rfl (by decide +kernel) ((mpush_ret h3 (by show M.md.stack.dropLast.length ≤ 58; rw [List.length_dropLast]; omega) hc _).mono ?_))
    rintro r w5 ⟨rfl, h5, hk5⟩
    refine au ?_
    rw [ha]
    exact rn_end Tryz.func81 (.inr (.inl ⟨rfl, rfl⟩)) ⟨rfl, hk1.of0.tr (hk13.tr hk5), h5⟩
  · rw [if_neg hc0]
    rw [show sayB i.2.2.1 (topS M.md.stack) = false by simpa [sayB] using hc0]
    refine au ?_
    refine pl_op rfl rfl (opTo_call (fst := []) (cap := []) rfl rfl rfl rfl (by decide +kernel) ((mstop_ret h3 11 (by decide)).mono ?_))
    rintro r w4 ⟨rfl, h4, hk4⟩
    refine au ?_
    exact rn_ret Tryz.func81 (.inr (.inl ⟨rfl, rfl⟩)) ⟨rfl, hk1.of0.tr (hk13.tr hk4), h4.b⟩

theorem mputCell_ret (h : Vm Y Z R B w x fp M) (i : Is) (h1 : 2 ≤ M.md.stack.length) (hs : M.md.stack.length ≤ 24) (hc : M.md.cells.length ≤ 48) (hA : 0 ≤ i.2.1) (hAB : i.2.1 + i.2.2.1 ≤ (M.md.cells.length : Int)) :
    Ret Tryz.prog 85 [.pointer (some ⟨x, 0, none⟩), .agg (iC i).toArray] w fun r w' => r = .tuple #[] ∧ Keep [M.m] w w' ∧
      Vm Y Z R B w' x fp { M with md := if 0 ≤ topS M.md.stack.dropLast ∧ topS M.md.stack.dropLast < i.2.2.1 then { M.md with stack := M.md.stack.dropLast.dropLast, cells := M.md.cells.set (i.2.1 + topS M.md.stack.dropLast).toNat (topS M.md.stack) } else { M.md with stack := M.md.stack.dropLast.dropLast, state := 13 } } := by
  refine ret_of 23 Tryz.func85 rfl rfl (by simp) ?_
  refine au ?_
  refine pl_op rfl rfl (opTo_boxN (iC i) rfl rfl rfl ?_)
  intro w1 x1 hx1 hs1 hk1 hb1
  have hml := (h.lt _ h.mIn).2.1
  have hmx : x1 ∉ [M.m] := by
    intro hm
    have hm : x1 = M.o.m := List.mem_singleton.1 hm
    omega
  refine au ?_
  refine pl_op rfl rfl (opTo_call (fst := []) (cap := []) rfl rfl rfl rfl (by decide +kernel) ((mpop_ret (Vx.keep0 h hk1) (by omega) (by omega)).mono ?_))
  rintro r w2 ⟨rfl, h2, hk2⟩
  refine au ?_
  refine pl_op rfl rfl (opTo_call (fst := []) (cap := []) rfl rfl rfl rfl (by decide +kernel) ((mpop_ret h2 (by show 1 ≤ M.md.stack.dropLast.length; rw [List.length_dropLast]; omega) (by show M.md.stack.dropLast.length ≤ 59; rw [List.length_dropLast]; omega)).mono ?_))
  rintro r w3 ⟨rfl, h3, hk3⟩
  have hk13 : Keep [M.m] w1 w3 := hk2.tr hk3
  have hb3 := hk13.blk hb1 hmx
  refine au ?_
  refine pl_val (.agg (iC i).toArray) rfl rfl (val_load (iC i) hT rfl rfl rfl (hb3.range (by rfl))) ?_
  refine au ?_
  refine pl_op rfl rfl (opTo_call (fst := []) (cap := []) rfl rfl rfl rfl (by decide +kernel) ((msays_ret i (topS M.md.stack.dropLast) w3).mono ?_))
  rintro r w4 ⟨rfl, hk4⟩
  have h4 := Vx.keep0 h3 hk4
  have hb4 := hk4.blk hb3 (by simp)
  have hk14 : Keep [M.m] w1 w4 := hk13.tr0 hk4
  by_cases hc0 : 0 ≤ topS M.md.stack.dropLast ∧ topS M.md.stack.dropLast < i.2.2.1
  · rw [if_pos hc0]
    rw [show sayB i.2.2.1 (topS M.md.stack.dropLast) = true by simp [sayB, hc0]]
    obtain ⟨a, ha⟩ : ∃ a : Nat, i.2.1 + topS M.md.stack.dropLast = (a : Nat) := ⟨(i.2.1 + topS M.md.stack.dropLast).toNat, by omega⟩
    refine au ?_
    refine pl_val _ rfl rfl (val_load1 hT rfl rfl rfl (hb4.cell rfl)) ?_
    refine au ?_
    refine pl_num (((a : Nat) : Int)) rfl rfl rfl rfl rfl (by simp only [ariP]; omega) ?_
    refine au ?_
    refine pl_op rfl rfl (opTo_call (fst := []) (cap := []) rfl rfl rfl rfl (by decide +kernel) ((msetCell_ret h4 hc (a := a) (by show a < M.md.cells.length; omega) (topS M.md.stack)).mono ?_))
    rintro r w5 ⟨rfl, h5, hk5⟩
    refine au ?_
    rw [ha, Int.toNat_natCast]
    exact rn_end Tryz.func85 (.inr (.inl ⟨rfl, rfl⟩)) ⟨rfl, hk1.of0.tr (hk14.tr hk5), h5⟩
  · rw [if_neg hc0]
    rw [show sayB i.2.2.1 (topS M.md.stack.dropLast) = false by simpa [sayB] using hc0]
    refine au ?_
    refine pl_op rfl rfl (opTo_call (fst := []) (cap := []) rfl rfl rfl rfl (by decide +kernel) ((mstop_ret h4 11 (by decide)).mono ?_))
    rintro r w5 ⟨rfl, h5, hk5⟩
    refine au ?_
    exact rn_ret Tryz.func85 (.inr (.inl ⟨rfl, rfl⟩)) ⟨rfl, hk1.of0.tr (hk14.tr hk5), h5⟩

/-- What it prints. -/
theorem Vx.print {O : Mo} {E : List Int → Prop} (h : Vx Y R B w x fp O E) (hl : O.pr.1.length ≤ 400000) (k n : Int) : Ret Tryz.prog 98 [.pointer (some ⟨O.q, 0, none⟩), .int .i64 k, .int .i64 n] w fun r w' => r = .tuple #[] ∧ ∃ fp', Vx Y R B w' x fp' { O with pr := putI O.pr k n } E ∧ Keep fp w w' ∧ ∀ k ∈ fp', k ∈ fp ∨ w.heap.size ≤ k := by
  obtain ⟨d, s, S, W, D, wv, cv, iv, pv, rfl, h, e⟩ := h
  refine (pput_ret ⟨pv, rfl, h.pr⟩ hl k n).mono ?_
  rintro r w1 ⟨rfl, fq', ⟨pv', rfl, hp1⟩, hk1, hf1⟩
  have hq : ∀ k ∈ O.q :: obs pv, ∃ L e, Blk w k L e ∧ (e = tPr ∨ e = tLg) := fun k hk => by
    rcases List.mem_cons.1 hk with rfl | hk
    · exact ⟨_, _, h.pr.blk, .inl rfl⟩
    · obtain ⟨L, hL⟩ := h.pr.row.blk k hk
      exact ⟨L, _, hL, .inr rfl⟩
  have ne : ∀ {b : Nat} {L : List Value} {e : TypeId}, Blk w b L e → e ≠ tPr → e ≠ tLg → b ∉ O.q :: obs pv := fun {b L e} hb h1 h2 hm => by
    obtain ⟨L', e', hb', he⟩ := hq b hm
    rcases he with rfl | rfl
    · exact Blk.ne hb hb' h1 rfl
    · exact Blk.ne hb hb' h2 rfl
  have hiv : ∀ k ∈ obs iv, k ∉ O.q :: obs pv := fun k hk hm => by
    rcases List.mem_cons.1 hm with rfl | hm
    · exact h.inp.ne h.pr.blk nePL _ hk (by simp)
    · exact h.apt k hm hk
  have hdk : ∀ k ∈ fpD d wv, k ∉ O.q :: obs pv := fun k hk hm => by
    obtain ⟨L', e', hb', he⟩ := hq k hm
    rcases he with rfl | rfl
    · exact not_fp h.st.dsk hb' (by decide) hk
    · exact not_fp h.st.dsk hb' (by decide) hk
  refine ⟨rfl, _, ⟨d, s, S, W, D, wv, cv, iv, pv', rfl, ⟨⟨h.st.mem.keep hk1 (ne h.st.mem.blk (by decide) (by decide)), hk1.blk h.st.sto (ne h.st.sto (by decide) (by decide)), h.st.dsk.keep hk1 hdk, h.st.good, h.st.tied, h.st.hm⟩, h.hs, h.gen, hp1, hk1.blk h.blk (ne h.blk neMP neML), ?_, h.inp.keep hk1 hiv, h.hx, ?_, ?_⟩, e⟩, ?_, ?_⟩
  · exact h.code.keep hk1 fun c hR => ⟨h.pr.ro c hR, fun hm => h.pr.nr c hm hR⟩
  · intro k hk hm
    rcases hf1 k (by simp [hk]) with h1 | h1
    · exact hiv k hm h1
    · have := (h.inp.lt k hm).2
      omega
  · intro k hk hR
    rcases mem_fpV.1 hk with h1 | h1 | h1 | h1 | h1 | h1
    · exact h.nr k (mem_fpV.2 (.inl h1)) hR
    · exact h.nr k (mem_fpV.2 (.inr (.inl h1))) hR
    · exact h.nr k (mem_fpV.2 (.inr (.inr (.inl h1)))) hR
    · exact h.nr k (mem_fpV.2 (.inr (.inr (.inr (.inl h1))))) hR
    · exact hp1.nr k h1 hR
    · exact h.nr k (mem_fpV.2 (.inr (.inr (.inr (.inr (.inr h1)))))) hR
  · exact hk1.mono fun k hk => .inl (mem_fpV.2 (.inr (.inr (.inr (.inr (.inl hk))))))
  · intro k hk
    rcases mem_fpV.1 hk with h1 | h1 | h1 | h1 | h1 | h1
    · exact .inl (mem_fpV.2 (.inl h1))
    · exact .inl (mem_fpV.2 (.inr (.inl h1)))
    · exact .inl (mem_fpV.2 (.inr (.inr (.inl h1))))
    · exact .inl (mem_fpV.2 (.inr (.inr (.inr (.inl h1)))))
    · rcases hf1 k h1 with h2 | h2
      · exact .inl (mem_fpV.2 (.inr (.inr (.inr (.inr (.inl h2))))))
      · exact .inr h2
    · exact .inl (mem_fpV.2 (.inr (.inr (.inr (.inr (.inr h1))))))

theorem mprint_ret (h : Vm Y Z R B w x fp M) (ho : M.md.out ≤ 400000) (hl : M.pr.1.length ≤ 400000) (n : Int) : Ret Tryz.prog 86 [.pointer (some ⟨x, 0, none⟩), .int .i64 n] w fun r w' => r = .tuple #[] ∧ ∃ fp', Vm Y Z R B w' x fp' { M with md := { M.md with out := M.md.out + 1 }, pr := putP M.pr M.md.out n } ∧ Keep fp w w' ∧ ∀ k ∈ fp', k ∈ fp ∨ w.heap.size ≤ k := by
  refine ret_of 24 Tryz.func86 rfl rfl (by simp) ?_
  refine au ?_
  refine pl_val _ rfl rfl (val_load1 hT rfl rfl rfl (h.ptr)) ?_
  refine pl_op rfl rfl (opTo_call (fst := []) (cap := []) rfl rfl rfl rfl (by decide +kernel) ((h.load 3 (M.md.out : Nat) fun W hl e => loadW_at e.out (by decide)).mono ?_))
  rintro r w1 ⟨rfl, hww⟩
  rw [hww]
  refine au ?_
  refine pl_val _ rfl rfl (val_load1 hT rfl rfl rfl (h.prt)) ?_
  refine au ?_
  refine pl_op rfl rfl (opTo_call (fst := []) (cap := []) rfl rfl rfl rfl (by decide +kernel) ((h.print hl (M.md.out : Nat) n).mono ?_))
  rintro r w2 ⟨rfl, fp', h2, hk2, hf2⟩
  rw [show putI M.o.pr ((M.md.out : Nat) : Int) n = putP M.pr M.md.out n from putI_nat _ _ _] at h2
  refine au ?_
  refine pl_val _ rfl rfl (val_load1 hT rfl rfl rfl (h2.ptr)) ?_
  refine au ?_
  refine pl_num (((M.md.out + 1 : Nat) : Int)) rfl rfl rfl rfl rfl (by simp only [ariP]; omega) ?_
  refine pl_op rfl rfl (opTo_call (fst := []) (cap := []) rfl rfl rfl rfl (by decide +kernel) ((h2.put (E' := fun W => Ena Z W { M.md with out := M.md.out + 1 }) 3 ((M.md.out + 1 : Nat) : Int) fun W hl e => by
    rw [show (3 : Int) = ((3 : Nat) : Int) from rfl, putW_at W _ (by decide)]
    exact ena_out e hl rfl).mono ?_))
  rintro r w3 ⟨rfl, h3, hk3⟩
  refine au ?_
  refine rn_end Tryz.func86 (.inr (.inl ⟨rfl, rfl⟩)) ⟨rfl, fp', h3, hk2.trans hk3 fun k hk => .inl ?_, hf2⟩
  rw [List.mem_singleton.1 hk]
  exact h.mIn

theorem mread_ret (h : Vm Y Z R B w x fp M) (hr : M.md.read ≤ 1000000) (hc : M.md.cells.length ≤ 48) {a : Nat} (ha : a < M.md.cells.length) : Ret Tryz.prog 87 [.pointer (some ⟨x, 0, none⟩), .int .i64 (a : Nat)] w fun r w' => r = .tuple #[] ∧ Keep [M.m] w w' ∧
      Vm Y Z R B w' x fp { M with md := if M.md.read < M.inp.length then { M.md with cells := M.md.cells.set a (M.inp.getD M.md.read 0), read := M.md.read + 1 } else { M.md with state := 14 } } := by
  obtain ⟨cv, iv, hbk, hcd, hin, hro⟩ := h.bk
  have hin' : RowL w B iv M.inp := hin
  obtain ⟨ia, icap, rfl⟩ := hin'.form
  refine ret_of 40 Tryz.func87 rfl rfl (by simp) ?_
  refine au ?_
  refine pl_val _ rfl rfl (val_load1 hT rfl rfl rfl (h.ptr)) ?_
  refine pl_op rfl rfl (opTo_call (fst := []) (cap := []) rfl rfl rfl rfl (by decide +kernel) ((h.load 2 (M.md.read : Nat) fun W hl e => loadW_at e.read (by decide)).mono ?_))
  rintro r w1 ⟨rfl, hww⟩
  rw [hww]
  refine au ?_
  refine nay ?_
  refine au ?_
  refine pl_val _ rfl rfl (val_load1 hT rfl rfl rfl (hbk.cell rfl)) ?_
  refine au ?_
  by_cases hlt : M.md.read < M.inp.length
  · rw [if_pos hlt]
    refine nay ?_
    refine au ?_
    refine pl_val _ rfl rfl (val_load1 hT rfl rfl rfl (hbk.cell rfl)) ?_
    refine au ?_
    obtain ⟨y, hy⟩ : ∃ y, y = M.inp.getD M.md.read 0 := ⟨_, rfl⟩
    have hyi : M.inp[M.md.read]? = some y := by
      rw [hy, List.getD_eq_getElem?_getD, List.getElem?_eq_getElem hlt]
      rfl
    rw [← hy]
    obtain ⟨g, cap', hv, hcl⟩ := hin'.at hyi
    cases hv
    refine pl_val _ rfl rfl (val_index M.md.read hT rfl rfl rfl rfl rfl hlt w) ?_
    refine pl_val _ rfl rfl (val_load1 hT rfl rfl rfl ((by rw [Nat.zero_add, Nat.mul_one]; exact hcl))) ?_
    refine pl_op rfl rfl (opTo_call (fst := []) (cap := []) rfl rfl rfl rfl (by decide +kernel) ((msetCell_ret h hc ha y).mono ?_))
    rintro r w2 ⟨rfl, h2, hk2⟩
    refine au ?_
    refine pl_val _ rfl rfl (val_load1 hT rfl rfl rfl (h2.ptr)) ?_
    refine au ?_
    refine pl_num (((M.md.read + 1 : Nat) : Int)) rfl rfl rfl rfl rfl (by simp only [ariP]; omega) ?_
    refine pl_op rfl rfl (opTo_call (fst := []) (cap := []) rfl rfl rfl rfl (by decide +kernel) ((h2.put (E' := fun W => Ena Z W { M.md with cells := M.md.cells.set a y, read := M.md.read + 1 }) 2 ((M.md.read + 1 : Nat) : Int) fun W hl e => by
      rw [show (2 : Int) = ((2 : Nat) : Int) from rfl, putW_at W _ (by decide)]
      exact ena_read e hl rfl).mono ?_))
    rintro r w3 ⟨rfl, h3, hk3⟩
    refine au ?_
    exact rn_end Tryz.func87 (.inr (.inl ⟨rfl, rfl⟩)) ⟨rfl, hk2.tr hk3, h3⟩
  · rw [if_neg hlt]
    refine ye ?_
    refine au ?_
    refine pl_op rfl rfl (opTo_call (fst := []) (cap := []) rfl rfl rfl rfl (by decide +kernel) ((mstop_ret h 12 (by decide)).mono ?_))
    rintro r w2 ⟨rfl, h2, hk2⟩
    refine au ?_
    exact rn_ret Tryz.func87 (.inr (.inl ⟨rfl, rfl⟩)) ⟨rfl, hk2, h2⟩
end
end E
end Go.Proofs.YtmplkogkphmmjagGreat

/- The landed machine: contracts of deeds, Sync of its memory; do, an instruction each. -/
namespace Go.Proofs.YtmplkogkphmmjagGreat
set_option maxRecDepth 20000
set_option maxHeartbeats 4000000
namespace E
open Go.Proofs

theorem Blk.inj {w : World} {b : Nat} {L L' : List Value} {e e' : TypeId} (h : Blk w b L e) (h' : Blk w b L' e') : L = L' := by
  have := h.symm.trans h'
  simp only [Option.some.injEq, Obj.cells.injEq] at this
  simpa using congrArg Array.toList this.1
theorem size_bo : sizeOk Tryz.prog 4 1 = true := by kernel_rfl
/-- What is left to know of a machine behind a commit that was left off. -/
def TVm (w : World) (x : Nat) (b : Bool) : Prop := ∃ L, Blk w x L tMa ∧ L[5]? = some (.bool b)
/-- It came to M', and touched nothing but its own. -/
def Dn (Y : Nat → List Int → Prop) (Z : List Int) (R : Nat → Prop) (B : Nat) (w w' : World) (x : Nat) (fp : List Nat) (M' : Mx) : Prop := ∃ fp', Vp Y Z R B w' x fp' M' ∧ Keep fp w w' ∧ ∀ k ∈ fp', k ∈ fp ∨ w.heap.size ≤ k

section
variable {Y : Nat → List Int → Prop} {Z : List Int} {R : Nat → Prop} {B : Nat} {w w0 w' : World} {x : Nat} {fp : List Nat} {M M' : Mx}
theorem Dn.ofP (h : Vp Y Z R B w' x fp M') (hm : M.m ∈ fp) (hk : Keep [M.m] w w') : Dn Y Z R B w w' x fp M' := ⟨fp, h, hk.mono fun k hk => .inl (by rw [List.mem_singleton.1 hk]; exact hm), fun _ hk => .inl hk⟩
theorem Dn.of (h : Vm Y Z R B w' x fp M') (hm : M.m ∈ fp) (hk : Keep [M.m] w w') : Dn Y Z R B w w' x fp M' := Dn.ofP h.b hm hk
theorem Dn.late (hk : Keep [] w0 w) (h : Dn Y Z R B w w' x fp M') : Dn Y Z R B w0 w' x fp M' := by
  obtain ⟨fp', h1, h2, h3⟩ := h
  exact ⟨fp', h1, hk.of0.tr h2, fun k hk' => (h3 k hk').imp id fun h => Nat.le_trans hk.size h⟩

theorem mdeeds_all (h : Vm Y Z R B w x fp M) (hl : M.left ≤ 0) : Ret Tryz.prog 90 [.pointer (some ⟨x, 0, none⟩)] w fun r w' => r = .int .i64 (-1) ∧ w' = w := by
  obtain ⟨cv, iv, hbk, hcd, hin, hro⟩ := h.bk
  have hl : M.o.left ≤ 0 := hl
  refine ret_of 21 Tryz.func90 rfl rfl (by simp) ?_
  refine au ?_
  refine pl_val _ rfl rfl (val_load1 hT rfl rfl rfl (hbk.cell rfl)) ?_
  refine ye ?_
  refine au ?_
  exact rn_ret Tryz.func90 (.inl ⟨_, rfl, rfl⟩) ⟨rfl, rfl⟩

theorem mdeeds_some {cv iv : Value} {m q s : Nat} {left : Int} {torn : Bool} {W : List Int} {D : List Bool} (hbk : Blk w x (maC m cv iv q left torn) tMa) (hm : MemV w m s W D) (h0 : 0 < left) (h1 : left < 9223372036854775808) :
    Ret Tryz.prog 90 [.pointer (some ⟨x, 0, none⟩)] w fun r w' => (∃ may, r = .int .i64 may ∧ doneB (dirtyPs W D) may = false ∧ deedsN (dirtyPs W D) may = (((dirtyPs W D).length : Int) + 5 - left).toNat) ∧ Keep [] w w' := by
  have hlen : (dirtyPs W D).length ≤ 14 := dirtyTo_len W D 14
  refine ret_of 21 Tryz.func90 rfl rfl (by simp) ?_
  refine au ?_
  refine pl_val _ rfl rfl (val_load1 hT rfl rfl rfl (hbk.cell rfl)) ?_
  refine nay ?_
  refine au ?_
  refine rn_draw (fun w' => Keep [] w w') [] hMix ?_
  have hS : Keep [] w w.drew := (Keep.refl _ _).drew
  generalize w.drew = w1 at *
  refine tk 0 ?_
  refine tk 1 ?_
  refine tk 2 ?_
  refine dr_val 3 (.pointer (some ⟨m, 0, none⟩)) rfl (by decide +kernel) rfl rfl (fun w9 hS9 => val_load1 hT rfl rfl rfl ((hS9.blk hbk (by simp)).cell rfl)) hS ?_
  refine tk 7 ?_
  refine tk 8 ?_
  refine tk 9 ?_
  refine dr_val 10 (.int .i64 left) rfl (by decide +kernel) rfl rfl (fun w9 hS9 => val_load1 hT rfl rfl rfl ((hS9.blk hbk (by simp)).cell rfl)) hS ?_
  refine dr_op 4 rfl (by decide +kernel) rfl rfl (opTo_call (fst := []) (cap := []) rfl rfl rfl rfl (by decide +kernel) ((dirty_ret (hm.keep hS (by simp))).mono ?_))
  rintro r w2 ⟨hp2, hk2⟩
  obtain ⟨pa, pcap, rfl⟩ := hp2.form
  refine ⟨fun _ => hS.tr hk2, ?_⟩
  refine tk 5 ?_
  refine dr_num 6 ((((dirtyPs W D).length + 5 : Nat) : Int)) rfl (by decide +kernel) rfl rfl rfl rfl rfl (by simp only [ariP]; omega) ?_
  refine dr_num 11 ((((dirtyPs W D).length : Int) + 5 - left)) rfl (by decide +kernel) rfl rfl rfl rfl rfl (by simp only [ariP]; omega) ?_
  refine dr_any 12 _ rfl (by decide +kernel) rfl rfl (fun w => mval_max _ rfl rfl rfl rfl w) ?_
  refine tk 13 ?_
  refine dr_done (by decide +kernel) ?_
  refine au ?_
  refine rn_ret Tryz.func90 (.inl ⟨_, rfl, rfl⟩) ⟨⟨_, rfl, ?_, ?_⟩, hS.tr hk2⟩
  · unfold doneB
    rw [decide_eq_false_iff_not]
    split <;> omega
  · unfold deedsN
    rw [if_neg (by split <;> omega)]
    split <;> omega

/-- Its memory is made sure of, by all deeds. -/
theorem Vx.sync {O : Mo} {E : List Int → Prop} {Y' : Nat → List Int → Prop} (h : Vx Y R B w x fp O E) (hg : O.gen < 1000000) (hY : ∀ d S S2 W, Y d S → E W → W.length = 112 → allS S2 = W → Y' d S2) : Ret Tryz.prog 89 [.pointer (some ⟨O.m, 0, none⟩), .int .i64 (-1)] w fun r w' => r = .bool true ∧ ∃ fp', Vx Y' R B w' x fp' { O with gen := O.gen + 1 } E ∧ Keep fp w w' ∧ ∀ k ∈ fp', k ∈ fp ∨ w.heap.size ≤ k := by
  obtain ⟨d, s, S, W, D, wv, cv, iv, pv, rfl, h, e⟩ := h
  have hmay : doneB (dirtyPs W D) (-1) = true := doneB_neg _
  refine (sync_ret h.st.mem h.st.sto h.st.dsk (by rw [h.gen]; exact hg) (-1)).mono ?_
  rintro v w1 ⟨rfl, hm1, hs1, hk1, wv1, hd1, hf1⟩
  rw [hmay] at hm1
  obtain ⟨⟨S2, hS2, hN⟩, _⟩ := commit_view h.st.good (chk_dirty W D) (dirtyTo_wf h.st.mem.wl D (by decide))
  have hn : deedsN (dirtyPs W D) (-1) = (dirtyPs W D).length + 5 := by
    unfold deedsN
    rw [if_pos (.inl (by decide))]
  rw [hn] at hd1
  rw [hS2] at hd1
  have hall := hN.all h.st.tied
  have ne : ∀ {b : Nat} {L : List Value} {t : TypeId}, Blk w b L t → t ≠ 57 → (t == 113 || t == 153) = false → b ∉ O.m :: fpD d wv := fun {b L t} hb h1 h2 hm => by
    rcases List.mem_cons.1 hm with h3 | h3
    · exact Blk.ne hb h.st.mem.blk h1 h3
    · exact not_fp h.st.dsk hb h2 h3
  have nel : ∀ {v : Value} {l : List Int}, RowL w B v l → ∀ k ∈ obs v, k ∉ O.m :: fpD d wv := fun {v l} hv k hk => by
    obtain ⟨L, hL⟩ := hv.blk k hk
    exact ne hL (by decide) (by decide)
  have hR : ∀ c, R c → c < w.heap.size ∧ c ∉ O.m :: fpD d wv := fun c hR => ⟨h.pr.ro c hR, fun hm => by
    rcases List.mem_cons.1 hm with h3 | h3
    · exact h.nr c (mem_fpV.2 (.inr (.inl h3))) hR
    · exact h.nr c (mem_fpV.2 (.inr (.inr (.inr (.inl h3))))) hR⟩
  refine ⟨by rw [hmay], _, ⟨d, s, S2, W, _, wv1, cv, iv, pv, rfl, ⟨⟨hm1, hs1, hd1, hN.good, tied_all _ hall, h.st.hm⟩, h.hs, by rw [hN.gen, h.gen], h.pr.keep hk1 ?_, hk1.blk h.blk (ne h.blk (by decide) (by decide)), h.code.keep hk1 hR, h.inp.keep hk1 (nel h.inp), h.hx, h.apt, ?_⟩, e.1, hY d S S2 W e.2 e.1 h.st.mem.wl (allS_eq h.st.mem.wl hall)⟩, ?_, ?_⟩
  · intro k hm hq
    rcases List.mem_cons.1 hq with rfl | hq
    · exact ne h.pr.blk (by decide) (by decide) hm
    · exact nel h.pr.row k hq hm
  · intro k hk hRk
    have hlt := h.pr.ro k hRk
    rcases mem_fpV.1 hk with h1 | h1 | h1 | h1 | h1 | h1
    · exact h.nr k (mem_fpV.2 (.inl h1)) hRk
    · exact h.nr k (mem_fpV.2 (.inr (.inl h1))) hRk
    · exact h.nr k (mem_fpV.2 (.inr (.inr (.inl h1)))) hRk
    · rcases hf1 k h1 with h2 | h2
      · exact h.nr k (mem_fpV.2 (.inr (.inr (.inr (.inl h2))))) hRk
      · omega
    · exact h.nr k (mem_fpV.2 (.inr (.inr (.inr (.inr (.inl h1)))))) hRk
    · exact h.nr k (mem_fpV.2 (.inr (.inr (.inr (.inr (.inr h1)))))) hRk
  · refine hk1.mono fun k hk => .inl ?_
    rcases List.mem_cons.1 hk with h3 | h3
    · exact mem_fpV.2 (.inr (.inl h3))
    · exact mem_fpV.2 (.inr (.inr (.inr (.inl h3))))
  · intro k hk
    rcases mem_fpV.1 hk with h1 | h1 | h1 | h1 | h1 | h1
    · exact .inl (mem_fpV.2 (.inl h1))
    · exact .inl (mem_fpV.2 (.inr (.inl h1)))
    · exact .inl (mem_fpV.2 (.inr (.inr (.inl h1))))
    · rcases hf1 k h1 with h2 | h2
      · exact .inl (mem_fpV.2 (.inr (.inr (.inr (.inl h2)))))
      · exact .inr h2
    · exact .inl (mem_fpV.2 (.inr (.inr (.inr (.inr (.inl h1))))))
    · exact .inl (mem_fpV.2 (.inr (.inr (.inr (.inr (.inr h1))))))
/-- Its own block is written: how many deeds are left out, whether the last commit was not done. -/
theorem Vx.own {O : Mo} {E : List Int → Prop} {left : Int} {torn : Bool} (h : Vx Y R B w x fp O E) (hk : Keep [x] w w') (hb : ∀ {cv iv : Value}, Blk w x (maC O.m cv iv O.q O.left O.torn) tMa → Blk w' x (maC O.m cv iv O.q left torn) tMa) : Vx Y R B w' x fp { O with left := left, torn := torn } E := by
  obtain ⟨d, s, S, W, D, wv, cv, iv, pv, rfl, h, e⟩ := h
  have ne : ∀ {b : Nat} {L : List Value} {t : TypeId}, Blk w b L t → t ≠ tMa → b ∉ [x] := fun {b L t} hb h1 hm => Blk.ne hb h.blk h1 (List.mem_singleton.1 hm)
  have nel : ∀ {v : Value} {l : List Int}, RowL w B v l → ∀ k ∈ obs v, k ∉ [x] := fun {v l} hv => hv.ne h.blk neML
  refine ⟨d, s, S, W, D, wv, cv, iv, pv, rfl, ⟨⟨h.st.mem.keep hk (ne h.st.mem.blk (by decide)), hk.blk h.st.sto (ne h.st.sto (by decide)), h.st.dsk.keep hk fun k hm hx => ?_, h.st.good, h.st.tied, h.st.hm⟩, h.hs, h.gen, h.pr.keep hk fun k hm hq => ?_, hb h.blk, h.code.keep hk fun c hR => ⟨h.pr.ro c hR, fun hm => ?_⟩, h.inp.keep hk (nel h.inp), h.hx, h.apt, h.nr⟩, e⟩
  · rw [List.mem_singleton.1 hx] at hm
    exact not_fp h.st.dsk h.blk (by decide) hm
  · rcases List.mem_cons.1 hq with rfl | hq
    · exact ne h.pr.blk neMP.symm hm
    · exact nel h.pr.row k hq hm
  · rw [List.mem_singleton.1 hm] at hR
    exact h.nr _ (mem_fpV.2 (.inl rfl)) hR
end
end E
end Go.Proofs.YtmplkogkphmmjagGreat
