/- The contract of Plate.Write. -/
import Derived.Test.YtoegglcdpdohdaaPlate
import Derived.Test.YtoegglcdpdohdaaSure
namespace Go.Proofs.Ytoegglcdpdohdaa
namespace E
open Go.Proofs

theorem slice_int (i : Int) : sliceCells Try.prog 27 1 [(0, Value.int .i64 i)] = some (3, [Value.int .i64 i].toArray) := by kernel_rfl

section
variable {B : Nat} {w w' : World} {p : Nat} {Q : List Wr} {n : Nat} {av wv : Value}

/-- A slice behind an append: where it lies. -/
def Lies (w : World) (v : Value) (g : Nat) : Prop := v.ownBlock = some g ∨ w.heap.size ≤ g

theorem pWrite_ret (h : PlateV B w p Q n av wv) (i : Int) {ws : List Int} (hw : ws.length = 8) (hQ : Q.length < 1000000) :
    Ret Try.prog 9 [.pointer (some ⟨p, 0, none⟩), .int .i64 i, .agg (ints ws).toArray] w fun v w' => v = .bool (hasB i) ∧
      ∃ av' wv', PlateV B w' p (if hasB i then Q ++ [(i.toNat, ws)] else Q) n av' wv' ∧ Keep (fpP p av wv) w w' ∧ ∀ k ∈ fpP p av' wv', k ∈ fpP p av wv ∨ w.heap.size ≤ k := by
  refine ret_of 33 Try.func9 rfl rfl (by simp) ?_
  repeat (first | refine pl_pure hT rfl rfl rfl ?_ | refine pl_nil ?_ | refine rn_seq ?_ | refine rn_plain ?_ | refine rn_block ?_ | refine rn_inBlock ?_ | refine rn_skip ?_ | refine rn_true rfl ?_ | refine rn_false rfl ?_ | refine rn_exit rfl ?_ | refine pl_not rfl rfl ?_)
  refine pl_op rfl rfl (opTo_box (ints ws) rfl rfl rfl ?_)
  have hk1 : Keep [] w (w.alloc (.cells (ints ws).toArray 32)) := (Keep.refl _ _).alloc _
  have hx1 : Blk (w.alloc (.cells (ints ws).toArray 32)) w.heap.size (ints ws) 32 := Blk.new _ _ _
  have hs1 : (w.alloc (.cells (ints ws).toArray 32)).heap.size = w.heap.size + 1 := World.size_alloc _ _
  generalize (w.alloc (.cells (ints ws).toArray 32)) = w1 at *
  have h1 := h.keep hk1 (by simp)
  have hlt := h.lt
  repeat (first | refine pl_pure hT rfl rfl rfl ?_ | refine pl_nil ?_ | refine rn_seq ?_ | refine rn_plain ?_ | refine rn_block ?_ | refine rn_inBlock ?_ | refine rn_skip ?_ | refine rn_true rfl ?_ | refine rn_false rfl ?_ | refine rn_exit rfl ?_ | refine pl_not rfl rfl ?_)
  by_cases h0 : i < 0
  · refine pl_val (.bool true) rfl rfl (val_int .i64 _ _ _ rfl rfl rfl (by simp [intOp, h0]) w1) ?_
    repeat (first | refine pl_pure hT rfl rfl rfl ?_ | refine pl_nil ?_ | refine rn_seq ?_ | refine rn_plain ?_ | refine rn_block ?_ | refine rn_inBlock ?_ | refine rn_skip ?_ | refine rn_true rfl ?_ | refine rn_false rfl ?_ | refine rn_exit rfl ?_ | refine pl_not rfl rfl ?_)
    have hb : hasB i = false := by simp [hasB]; omega
    rw [hb]
    exact rn_ret Try.func9 (.inl ⟨_, rfl, rfl⟩) ⟨rfl, av, wv, h1, hk1.of0, fun k hk => .inl hk⟩
  refine pl_val (.bool false) rfl rfl (val_int .i64 _ _ _ rfl rfl rfl (by simp [intOp, h0]) w1) ?_
  repeat (first | refine pl_pure hT rfl rfl rfl ?_ | refine pl_nil ?_ | refine rn_seq ?_ | refine rn_plain ?_ | refine rn_block ?_ | refine rn_inBlock ?_ | refine rn_skip ?_ | refine rn_true rfl ?_ | refine rn_false rfl ?_ | refine rn_exit rfl ?_ | refine pl_not rfl rfl ?_)
  by_cases h34 : 34 ≤ i
  · refine pl_val (.bool true) rfl rfl (val_int .i64 _ _ _ rfl rfl rfl (by simp [intOp, h34]) w1) ?_
    repeat (first | refine pl_pure hT rfl rfl rfl ?_ | refine pl_nil ?_ | refine rn_seq ?_ | refine rn_plain ?_ | refine rn_block ?_ | refine rn_inBlock ?_ | refine rn_skip ?_ | refine rn_true rfl ?_ | refine rn_false rfl ?_ | refine rn_exit rfl ?_ | refine pl_not rfl rfl ?_)
    have hb : hasB i = false := by simp [hasB]; omega
    rw [hb]
    exact rn_ret Try.func9 (.inl ⟨_, rfl, rfl⟩) ⟨rfl, av, wv, h1, hk1.of0, fun k hk => .inl hk⟩
  refine pl_val (.bool false) rfl rfl (val_int .i64 _ _ _ rfl rfl rfl (by simp [intOp]; omega) w1) ?_
  repeat (first | refine pl_pure hT rfl rfl rfl ?_ | refine pl_nil ?_ | refine rn_seq ?_ | refine rn_plain ?_ | refine rn_block ?_ | refine rn_inBlock ?_ | refine rn_skip ?_ | refine rn_true rfl ?_ | refine rn_false rfl ?_ | refine rn_exit rfl ?_ | refine pl_not rfl rfl ?_)
  have hb : hasB i = true := by simp [hasB]; omega
  rw [hb]
  have hl8 : (ints ws).length = 8 := by rw [ints_length, hw]
  have hxp : w.heap.size ∉ fpP p av wv := fun hm => by have := (hlt _ hm).2; omega
  have hpo : p ∉ av.ownBlock.toList ++ wv.ownBlock.toList := by
    simp only [List.mem_append, Option.mem_toList, not_or]
    exact ⟨h.d1, h.d2⟩
  have hxo : w.heap.size ∉ av.ownBlock.toList ++ wv.ownBlock.toList := fun hm => hxp (by simp only [fpP, List.mem_cons]; exact .inr hm)
  have hBs : B ≤ w.heap.size := by have := h.base; have := h.blk.lt; omega
  have hps : p < w.heap.size := h.blk.lt
  have hS1 : Keep (av.ownBlock.toList ++ wv.ownBlock.toList) w1 w1.drew := (Keep.refl _ _).drew
  have hbl : ∀ w', Keep (av.ownBlock.toList ++ wv.ownBlock.toList) w1 w' → Blk w' p [av, wv, .int .i64 (n : Nat)] 30 := fun w' hk => hk.blk h1.blk hpo
  refine rn_draw (fun w' => Keep (av.ownBlock.toList ++ wv.ownBlock.toList) w1 w') [18, 21] hMix ?_
  refine dr_pure 0 hT rfl (by decide +kernel) rfl rfl rfl ?_
  refine dr_pure 1 hT rfl (by decide +kernel) rfl rfl rfl ?_
  refine dr_pure 2 hT rfl (by decide +kernel) rfl rfl rfl ?_
  refine dr_pure 3 hT rfl (by decide +kernel) rfl rfl rfl ?_
  refine dr_pure 4 hT rfl (by decide +kernel) rfl rfl rfl ?_
  refine dr_val 5 av rfl (by decide +kernel) rfl rfl (fun w' hk => val_load1 hT rfl rfl rfl ((hbl w' hk).cell rfl)) hS1 ?_
  refine dr_pure 6 hT rfl (by decide +kernel) rfl rfl rfl ?_
  refine dr_pure 9 hT rfl (by decide +kernel) rfl rfl rfl ?_
  refine dr_pure 10 hT rfl (by decide +kernel) rfl rfl rfl ?_
  refine dr_pure 11 hT rfl (by decide +kernel) rfl rfl rfl ?_
  refine dr_val 12 wv rfl (by decide +kernel) rfl rfl (fun w' hk => val_load1 hT rfl rfl rfl ((hbl w' hk).cell rfl)) hS1 ?_
  refine dr_val 13 (.agg (ints ws).toArray) rfl (by decide +kernel) rfl rfl (fun w' hk => val_load _ hT rfl rfl (by rw [hl8]; rfl) ((hk.blk hx1 hxo).range (by simp))) hS1 ?_
  refine dr_with 6 65535 (fun σ w2 => ∃ g1 c1 g2 c2, σ = [(13, .pointer (some ⟨p, 0, none⟩)), (14, .pointer (some ⟨p, 0, none⟩)), (21, .slice (some ⟨g1, 0, none⟩) (Q.length + 1) c1), (28, .slice (some ⟨g2, 0, none⟩) (Q.length + 1) c2)] ∧
      Keep (av.ownBlock.toList ++ wv.ownBlock.toList) w1 w2 ∧
      Own w2 B 3 1 (.slice (some ⟨g1, 0, none⟩) (Q.length + 1) c1) (Q.length + 1) (acells Q ++ [.int .i64 i]) ∧ Own w2 B 32 8 (.slice (some ⟨g2, 0, none⟩) (Q.length + 1) c2) (Q.length + 1) (qcells Q ++ ints ws) ∧
      Lies w1 av g1 ∧ Lies w1 wv g2 ∧ g1 ≠ g2) ?_ ?_
  · rintro σ w2 ⟨g1, c1, g2, c2, rfl, hk2, ho1, ho2, hl1, hl2, hne⟩
    have hg1 : g1 ≠ p := fun e => by
      rcases hl1 with e1 | e1
      · exact h.d1 (e ▸ e1)
      · omega
    have hg2 : g2 ≠ p := fun e => by
      rcases hl2 with e1 | e1
      · exact h.d2 (e ▸ e1)
      · omega
    refine dr_pure 16 hT rfl (by decide +kernel) rfl rfl rfl ?_
    refine dr_pure 17 hT rfl (by decide +kernel) rfl rfl rfl ?_
    refine dr_op 18 rfl (by decide +kernel) rfl rfl (opTo_store _ rfl rfl rfl rfl (by kernel_rfl) (hbl w2 hk2) (by simp) (by simp; rfl) ⟨fun hn => absurd (by simp) hn, ?_⟩)
    have hsp : splice [av, wv, .int .i64 (n : Nat)] (0 + 0) [.slice (some ⟨g1, 0, none⟩) (Q.length + 1) c1] = [.slice (some ⟨g1, 0, none⟩) (Q.length + 1) c1, wv, .int .i64 (n : Nat)] := rfl
    rw [hsp]
    have hb3 := (hbl w2 hk2).set [.slice (some ⟨g1, 0, none⟩) (Q.length + 1) c1, wv, .int .i64 (n : Nat)]
    have hk3 : Keep [p] w2 (w2.setRow p [.slice (some ⟨g1, 0, none⟩) (Q.length + 1) c1, wv, .int .i64 (n : Nat)].toArray) := (Keep.refl _ _).setRow _ _ (.inl (by simp))
    generalize (w2.setRow p [.slice (some ⟨g1, 0, none⟩) (Q.length + 1) c1, wv, .int .i64 (n : Nat)].toArray) = w3 at *
    refine dr_pure 19 hT rfl (by decide +kernel) rfl rfl rfl ?_
    refine dr_pure 20 hT rfl (by decide +kernel) rfl rfl rfl ?_
    refine dr_op 21 rfl (by decide +kernel) rfl rfl (opTo_store _ rfl rfl rfl rfl (by kernel_rfl) hb3 (by simp) (by simp; rfl) ⟨fun hn => absurd (by simp) hn, ?_⟩)
    have hsp2 : splice [.slice (some ⟨g1, 0, none⟩) (Q.length + 1) c1, wv, .int .i64 (n : Nat)] (0 + 1) [.slice (some ⟨g2, 0, none⟩) (Q.length + 1) c2] = [.slice (some ⟨g1, 0, none⟩) (Q.length + 1) c1, .slice (some ⟨g2, 0, none⟩) (Q.length + 1) c2, .int .i64 (n : Nat)] := rfl
    rw [hsp2]
    have hb4 := hb3.set [.slice (some ⟨g1, 0, none⟩) (Q.length + 1) c1, .slice (some ⟨g2, 0, none⟩) (Q.length + 1) c2, .int .i64 (n : Nat)]
    have hk4 : Keep [p] w2 (w3.setRow p [.slice (some ⟨g1, 0, none⟩) (Q.length + 1) c1, .slice (some ⟨g2, 0, none⟩) (Q.length + 1) c2, .int .i64 (n : Nat)].toArray) := hk3.setRow _ _ (.inl (by simp))
    generalize (w3.setRow p [.slice (some ⟨g1, 0, none⟩) (Q.length + 1) c1, .slice (some ⟨g2, 0, none⟩) (Q.length + 1) c2, .int .i64 (n : Nat)].toArray) = w4 at *
    refine dr_done (by decide +kernel) ?_
    repeat (first | refine pl_pure hT rfl rfl rfl ?_ | refine pl_nil ?_ | refine rn_seq ?_ | refine rn_plain ?_ | refine rn_block ?_ | refine rn_inBlock ?_ | refine rn_skip ?_ | refine rn_true rfl ?_ | refine rn_false rfl ?_ | refine rn_exit rfl ?_ | refine pl_not rfl rfl ?_)
    have hi : (i.toNat : Int) = i := by omega
    have hKw : Keep (fpP p av wv) w w4 := ((hk1.of0).tr (hk2.mono fun k hk => .inl (by simp only [fpP, List.mem_cons]; exact .inr hk))).tr (hk4.mono fun k hk => .inl (by simp only [List.mem_singleton] at hk; subst hk; simp [fpP]))
    refine rn_ret Try.func9 (.inl ⟨_, rfl, rfl⟩) ⟨rfl, _, _, ⟨hb4, ?_, ?_, ?_, ?_, ?_, ?_, h.base, ?_⟩, hKw, ?_⟩
    · simp only [if_true, List.length_append, List.length_singleton, acells_snoc]
      have e : acell (i.toNat, ws) = [.int .i64 i] := by simp [acell, hi]
      rw [e]
      exact ho1.keep hk4 fun k e => by simp [Value.ownBlock] at e; simp; omega
    · simp only [if_true, List.length_append, List.length_singleton, qcells_snoc]
      exact ho2.keep hk4 fun k e => by simp [Value.ownBlock] at e; simp; omega
    · simpa [Value.ownBlock] using hg1
    · simpa [Value.ownBlock] using hg2
    · intro k e
      simp [Value.ownBlock] at e ⊢
      omega
    · simp only [if_true, List.length_append, List.length_singleton]
      have := h.le
      omega
    · intro q hq
      simp only [if_true, List.mem_append, List.mem_singleton] at hq
      rcases hq with hq | rfl
      · exact h.wf q hq
      · exact ⟨by show i.toNat < 34; omega, hw⟩
    · intro k hk
      rcases mem_fpP.1 hk with rfl | hk | hk
      · exact .inl (mem_fpP.2 (.inl rfl))
      · simp [Value.ownBlock] at hk
        subst hk
        rcases hl1 with e | e
        · exact .inl (mem_fpP.2 (.inr (.inl e)))
        · exact .inr (by omega)
      · simp [Value.ownBlock] at hk
        subst hk
        rcases hl2 with e | e
        · exact .inl (mem_fpP.2 (.inr (.inr e)))
        · exact .inr (by omega)
  intro hcont
  have hS : ∀ w2, Keep [] w1 w2 → Keep (av.ownBlock.toList ++ wv.ownBlock.toList) w1 w2 := fun w2 hk => hk.of0
  have hoav : ∀ k, av.ownBlock = some k → k ∈ av.ownBlock.toList ++ wv.ownBlock.toList := fun k e => by simp [e]
  have howv : ∀ k, wv.ownBlock = some k → k ∈ av.ownBlock.toList ++ wv.ownBlock.toList := fun k e => by simp [e]
  have hav : ∀ k, av.ownBlock = some k → k < w1.heap.size := fun k e => (h1.oa.lt k e).2
  have hwv : ∀ k, wv.ownBlock = some k → k < w1.heap.size := fun k e => (h1.ow.lt k e).2
  -- ahead of the second append
  refine dr_with 7 32767 (fun σ w2 => ∃ g1 c1 b2, σ = [(13, .pointer (some ⟨p, 0, none⟩)), (14, .pointer (some ⟨p, 0, none⟩)), (21, .slice (some ⟨g1, 0, none⟩) (Q.length + 1) c1), (25, wv), (27, .slice (some ⟨b2, 0, none⟩) 1 1)] ∧
      Keep (av.ownBlock.toList ++ wv.ownBlock.toList) w1 w2 ∧
      Own w2 B 3 1 (.slice (some ⟨g1, 0, none⟩) (Q.length + 1) c1) (Q.length + 1) (acells Q ++ [.int .i64 i]) ∧ Own w2 B 32 8 wv Q.length (qcells Q) ∧ Blk w2 b2 (ints ws) 32 ∧ Lies w1 av g1 ∧ wv.ownBlock ≠ some g1) ?_ ?_
  · rintro σ w2 ⟨g1, c1, b2, rfl, hk2, ho1, ho2, hb2, hl1, hn1⟩
    refine dr_op 15 rfl (by decide +kernel) rfl rfl (opTo_app B 32 8 64 (qcells Q) (ints ws) rfl rfl rfl (by decide +kernel) ho2 (hb2.range (by simp)) (by rw [hl8]) (ints_one _) (by decide) (by unfold maxLen; omega) (by omega) (by have := hk2.size; omega) ?_)
    intro g2 c2 w3 ho3 hat
    have hsz := hk2.size
    have hg1 := (ho1.lt g1 rfl).2
    have hlies : Lies w1 wv g2 := by
      rcases hat with ⟨e, _, _⟩ | ⟨e, _, _⟩
      · exact .inl e
      · exact .inr (by omega)
    have hne : g1 ≠ g2 := fun e => by
      rcases hat with ⟨e1, _, _⟩ | ⟨e1, _, _⟩
      · exact hn1 (e ▸ e1)
      · omega
    have hk3 : Keep (av.ownBlock.toList ++ wv.ownBlock.toList) w1 w3 := by
      rcases hat with ⟨e, _, hk⟩ | ⟨_, hk, _⟩
      · exact hk2.trans hk fun k hk => .inl (by simp only [List.mem_singleton] at hk; subst hk; exact howv _ e)
      · exact hk2.tr0 hk
    have ho1' : Own w3 B 3 1 (.slice (some ⟨g1, 0, none⟩) (Q.length + 1) c1) (Q.length + 1) (acells Q ++ [.int .i64 i]) := by
      rcases hat with ⟨_, _, hk⟩ | ⟨_, hk, _⟩
      · exact ho1.keep hk fun k e => by simp [Value.ownBlock] at e; simp; omega
      · exact ho1.keep hk (by simp)
    refine ⟨fun _ => hk3, ?_⟩
    refine dr_sub ?_ (hcont _ w3 ⟨g1, c1, g2, c2, rfl, hk3, ho1', ho3, hl1, hlies, hne⟩)
    exact ⟨rfl, rfl, rfl, rfl, trivial⟩
  intro hcont2
  clear hcont
  -- the first append
  have hA1 : ∀ (w2 : World) (b1 : Nat) (n' : Nat) (σ : Env) (o : Oper) (K : Value → World → Prop), Keep [] w1 w2 → Blk w2 b1 [.int .i64 i] 3 →
      o.op = .call { callee := .builtin .append, args := #[.tmp 18, .tmp 20], argTypes := #[27, 27] } → ev σ (.tmp 18) = some av → ev σ (.tmp 20) = some (.slice (some ⟨b1, 0, none⟩) 1 1) →
      (∀ g1 c1 w3, Keep (av.ownBlock.toList ++ wv.ownBlock.toList) w1 w3 → Own w3 B 3 1 (.slice (some ⟨g1, 0, none⟩) (Q.length + 1) c1) (Q.length + 1) (acells Q ++ [.int .i64 i]) → Own w3 B 32 8 wv Q.length (qcells Q) → Lies w1 av g1 → wv.ownBlock ≠ some g1 →
        (∀ b L e, w1.heap.size ≤ b → Blk w2 b L e → Blk w3 b L e) → K (.slice (some ⟨g1, 0, none⟩) (Q.length + 1) c1) w3) → OpTo Try.prog n' σ o w2 K := by
    intro w2 b1 n' σ o K hk2 hb1 ho hx hy hK
    have hsz := hk2.size
    refine opTo_app B 3 1 8 (acells Q) [.int .i64 i] ho hx hy (by decide +kernel) (h1.oa.keep hk2 (by simp)) (hb1.range (by simp)) rfl (by simp; rfl) (by decide) (by unfold maxLen; omega) (by omega) (by omega) ?_
    intro g1 c1 w3 ho3 hat
    refine hK g1 c1 w3 ?_ ho3 ?_ ?_ ?_ ?_
    · rcases hat with ⟨e, _, hk⟩ | ⟨_, hk, _⟩
      · exact (hk2.of0).trans hk fun k hk => .inl (by simp only [List.mem_singleton] at hk; subst hk; exact hoav _ e)
      · exact (hk2.of0).tr0 hk
    · have ho2 := h1.ow.keep hk2 (by simp)
      rcases hat with ⟨e, _, hk⟩ | ⟨_, hk, _⟩
      · exact ho2.keep hk fun k e2 => by
          simp only [List.mem_singleton]
          intro e3
          exact h.d3 g1 e (e3 ▸ e2)
      · exact ho2.keep hk (by simp)
    · rcases hat with ⟨e, _, _⟩ | ⟨e, _, _⟩
      · exact .inl e
      · exact .inr (by omega)
    · intro e2
      rcases hat with ⟨e, _, _⟩ | ⟨e, _, _⟩
      · exact h.d3 g1 e e2
      · have := hwv g1 e2
        omega
    · intro b L e hb hbl
      rcases hat with ⟨e1, _, hk⟩ | ⟨_, hk, _⟩
      · refine hk.blk hbl ?_
        have := hav g1 e1
        simp only [List.mem_singleton]
        omega
      · exact hk.blk hbl (by simp)
  -- ahead of both appends
  refine dr_with 8 32511 (fun σ w2 => ∃ b1 b2, σ = [(13, .pointer (some ⟨p, 0, none⟩)), (14, .pointer (some ⟨p, 0, none⟩)), (18, av), (20, .slice (some ⟨b1, 0, none⟩) 1 1), (25, wv), (27, .slice (some ⟨b2, 0, none⟩) 1 1)] ∧
      Keep [] w1 w2 ∧ Blk w2 b1 [.int .i64 i] 3 ∧ Blk w2 b2 (ints ws) 32 ∧ w1.heap.size ≤ b2) ?_ ?_
  · rintro σ w2 ⟨b1, b2, rfl, hk2, hb1, hb2, hge⟩
    refine dr_op 8 rfl (by decide +kernel) rfl rfl (hA1 w2 b1 _ _ _ _ hk2 hb1 rfl rfl rfl ?_)
    intro g1 c1 w3 hk3 ho1 ho2 hl1 hn1 hbk
    refine ⟨fun _ => hk3, ?_⟩
    refine dr_sub ?_ (hcont2 _ w3 ⟨g1, c1, b2, rfl, hk3, ho1, ho2, hbk b2 _ _ hge hb2, hl1, hn1⟩)
    exact ⟨rfl, rfl, rfl, rfl, rfl, trivial⟩
  intro hcont1
  have hkd : Keep [] w1 w1.drew := (Keep.refl _ _).drew
  refine dr_op2 7 14 rfl rfl (by decide +kernel) rfl rfl rfl rfl ?_ ?_
  · refine opTo_buildSlice _ _ rfl rfl (slice_int i) ⟨fun _ => hS1.alloc _, ?_⟩
    have hk2 : Keep [] w1 (w1.drew.alloc (.cells [Value.int .i64 i].toArray 3)) := hkd.alloc _
    have hb2 : Blk (w1.drew.alloc (.cells [Value.int .i64 i].toArray 3)) w1.drew.heap.size [.int .i64 i] 3 := Blk.new _ _ _
    generalize (w1.drew.alloc (.cells [Value.int .i64 i].toArray 3)) = w2 at *
    have hsz2 := hk2.size
    refine dr_op2 8 14 rfl rfl (by decide +kernel) rfl rfl rfl rfl ?_ ?_
    · refine hA1 w2 _ _ _ _ _ hk2 hb2 rfl rfl rfl ?_
      intro g1 c1 w3 hk3 ho1 ho2 hl1 hn1 hbk
      refine ⟨fun _ => hk3, ?_⟩
      refine dr_op 14 rfl (by decide +kernel) rfl rfl (opTo_buildSlice _ _ rfl rfl (slice_words hw) ⟨fun _ => hk3.alloc _, ?_⟩)
      have hk4 : Keep [] w3 (w3.alloc (.cells (ints ws).toArray 32)) := (Keep.refl _ _).alloc _
      refine dr_sub ?_ (hcont2 _ _ ⟨g1, c1, w3.heap.size, rfl, hk3.tr0 hk4, ho1.keep hk4 (by simp), ho2.keep hk4 (by simp), Blk.new _ _ _, hl1, hn1⟩)
      exact ⟨rfl, rfl, rfl, rfl, rfl, trivial⟩
    · refine opTo_buildSlice _ _ rfl rfl (slice_words hw) ⟨fun _ => (hS _ hk2).alloc _, ?_⟩
      have hk3 : Keep [] w2 (w2.alloc (.cells (ints ws).toArray 32)) := (Keep.refl _ _).alloc _
      refine dr_sub ?_ (hcont1 _ _ ⟨w1.drew.heap.size, w2.heap.size, rfl, hk2.tr0 hk3, hk3.blk hb2 (by simp), Blk.new _ _ _, hsz2⟩)
      exact ⟨rfl, rfl, rfl, rfl, rfl, rfl, trivial⟩
  · refine opTo_buildSlice _ _ rfl rfl (slice_words hw) ⟨fun _ => hS1.alloc _, ?_⟩
    have hk2 : Keep [] w1 (w1.drew.alloc (.cells (ints ws).toArray 32)) := hkd.alloc _
    have hb2 : Blk (w1.drew.alloc (.cells (ints ws).toArray 32)) w1.drew.heap.size (ints ws) 32 := Blk.new _ _ _
    generalize (w1.drew.alloc (.cells (ints ws).toArray 32)) = w2 at *
    refine dr_op 7 rfl (by decide +kernel) rfl rfl (opTo_buildSlice _ _ rfl rfl (slice_int i) ⟨fun _ => (hS _ hk2).alloc _, ?_⟩)
    have hk3 : Keep [] w2 (w2.alloc (.cells [Value.int .i64 i].toArray 3)) := (Keep.refl _ _).alloc _
    refine dr_sub ?_ (hcont1 _ _ ⟨w2.heap.size, w1.drew.heap.size, rfl, hk2.tr0 hk3, Blk.new _ _ _, hk3.blk hb2 (by simp), Nat.le_refl _⟩)
    exact ⟨rfl, rfl, rfl, rfl, rfl, rfl, trivial⟩
end
end E
end Go.Proofs.Ytoegglcdpdohdaa
