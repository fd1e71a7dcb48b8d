/- The walk of DiskDoes: whatever the steps and the sector, it returns true, and turns nothing that was there. -/
import Derived.Test.YtoegglcdpdohdaaDoesM
namespace Go.Proofs.Ytoegglcdpdohdaa
namespace E
open Go.Proofs

def isBool (P : Program) (t : Nat) : Bool :=
  match P.underlying t with
  | some .bool => true
  | _ => false

theorem val_neBool {P : Program} {n : Nat} {σ : Env} {o : Oper} {t t' : Nat} {x y : Operand} (a b r : Bool) (h : isBool P t = true) (ho : o.op = .binOp .neq t x y t') (hx : ev σ x = some (.bool a)) (hy : ev σ y = some (.bool b)) (hr : (!(a == b)) = r) (w : World) : Val P n σ o w (.bool r) := by
  intro ac ha
  subst hr
  unfold isBool at h
  split at h
  · rename_i hu
    have he : (Op.equal t (.bool a) (.bool b)).run P w = .ok (a == b) w := run_equalIn_bool' w 9999 t a b hu
    simp [execOp, ho, ha.eval hx, ha.eval hy, eqGuard, binOp, he]
  · cases h

theorem built_plate : Try.prog.built 30 [] = some [Value.slice none 0 0, Value.slice none 0 0, Value.int .i64 0].toArray := by kernel_rfl

/-- What DiskDoes knows in its loops. -/
structure DoesI (B p : Nat) (w' : World) (S : List Int) (L : List Wr) (wv : Value) (Q : List Wr) (n : Nat) (av pv : Value) : Prop where
  disk : DiskV B w' B S L wv
  plate : PlateV B w' p Q n av pv
  rel : Rel S L Q n
  apart : ∀ k ∈ fpD B wv, k ∉ fpP p av pv

theorem DoesI.keep {B p : Nat} {w w' : World} {S : List Int} {L : List Wr} {wv : Value} {Q : List Wr} {n : Nat} {av pv : Value} (h : DoesI B p w S L wv Q n av pv) (hk : Keep [] w w') : DoesI B p w' S L wv Q n av pv :=
  ⟨h.disk.keep hk (by simp), h.plate.keep hk (by simp), h.rel, h.apart⟩

theorem does_walk {w : World} {lv : Value} {st : List DStep} (hst : ArgS w lv st) (at' : Int) :
    Ret Try.prog 3 [lv, .int .i64 at'] w fun v w' => v = .bool true ∧ Keep [] w w' := by
  refine ret_of 128 Try.func3 rfl rfl (by simp) ?_
  repeat (first | refine pl_pure hT rfl rfl rfl ?_ | refine pl_nil ?_ | refine rn_seq ?_ | refine rn_plain ?_ | refine rn_block ?_ | refine rn_inBlock ?_ | refine rn_skip ?_ | refine rn_true rfl ?_ | refine rn_false rfl ?_ | refine rn_exit rfl ?_ | refine pl_not rfl rfl ?_)
  refine pl_op rfl rfl (opTo_call rfl rfl rfl rfl (by decide +kernel) ((begun_ret w).mono ?_))
  rintro v w1 ⟨rfl, hk1⟩
  repeat (first | refine pl_pure hT rfl rfl rfl ?_ | refine pl_nil ?_ | refine rn_seq ?_ | refine rn_plain ?_ | refine rn_block ?_ | refine rn_inBlock ?_ | refine rn_skip ?_ | refine rn_true rfl ?_ | refine rn_false rfl ?_ | refine rn_exit rfl ?_ | refine pl_not rfl rfl ?_)
  obtain ⟨la, lcap, hlv, _⟩ := hst.ex
  refine pl_val (.int .i64 st.length) rfl rfl (val_pure hT (by subst hlv; rfl) w1) ?_
  by_cases hbig : 300 < st.length
  · refine pl_val (.bool true) rfl rfl (val_int .i64 _ 300 _ rfl rfl rfl (by simp [intOp]; omega) w1) ?_
    repeat (first | refine pl_pure hT rfl rfl rfl ?_ | refine pl_nil ?_ | refine rn_seq ?_ | refine rn_plain ?_ | refine rn_block ?_ | refine rn_inBlock ?_ | refine rn_skip ?_ | refine rn_true rfl ?_ | refine rn_false rfl ?_ | refine rn_exit rfl ?_ | refine pl_not rfl rfl ?_)
    exact rn_ret Try.func3 (.inl ⟨_, rfl, rfl⟩) ⟨rfl, hk1⟩
  refine pl_val (.bool false) rfl rfl (val_int .i64 _ 300 _ rfl rfl rfl (by simp [intOp]; omega) w1) ?_
  repeat (first | refine pl_pure hT rfl rfl rfl ?_ | refine pl_nil ?_ | refine rn_seq ?_ | refine rn_plain ?_ | refine rn_block ?_ | refine rn_inBlock ?_ | refine rn_skip ?_ | refine rn_true rfl ?_ | refine rn_false rfl ?_ | refine rn_exit rfl ?_ | refine pl_not rfl rfl ?_)
  refine pl_op rfl rfl (opTo_call rfl rfl rfl rfl (by decide +kernel) ((new_ret w1).mono ?_))
  rintro v w2 ⟨rfl, h2, hk2⟩
  have hB : w.heap.size ≤ w1.heap.size := hk1.size
  have hkw2 := hk1.tr0 hk2
  generalize w1.heap.size = B at *
  refine pl_val _ rfl rfl (val_build _ rfl rfl built_plate w2) ?_
  refine pl_op rfl rfl (opTo_box _ rfl rfl rfl ?_)
  have hk3 : Keep [] w2 (w2.alloc (.cells [Value.slice none 0 0, Value.slice none 0 0, Value.int .i64 0].toArray 30)) := (Keep.refl _ _).alloc _
  have hp3 : Blk (w2.alloc (.cells [Value.slice none 0 0, Value.slice none 0 0, Value.int .i64 0].toArray 30)) w2.heap.size [Value.slice none 0 0, Value.slice none 0 0, Value.int .i64 0] 30 := Blk.new _ _ _
  generalize (w2.alloc (.cells [Value.slice none 0 0, Value.slice none 0 0, Value.int .i64 0].toArray 30)) = w3 at *
  have hBp : B < w2.heap.size := h2.blk.lt
  have hI0 : DoesI B w2.heap.size w3 S0 [] (.slice none 0 0) [] 0 (.slice none 0 0) (.slice none 0 0) :=
    ⟨h2.keep hk3 (by simp), ⟨hp3, Own.nil _ _ _ _, Own.nil _ _ _ _, by simp [Value.ownBlock], by simp [Value.ownBlock], by simp [Value.ownBlock], Nat.le_refl _, by omega, by simp⟩, Rel.init, by simp [fpD, fpP, Value.ownBlock]; omega⟩
  have hkw3 := hkw2.tr0 hk3
  generalize w2.heap.size = p at *
  clear h2 hk1 hk2 hk3 hp3 hkw2
  repeat (first | refine pl_pure hT rfl rfl rfl ?_ | refine pl_nil ?_ | refine rn_seq ?_ | refine rn_plain ?_ | refine rn_block ?_ | refine rn_inBlock ?_ | refine rn_skip ?_ | refine rn_true rfl ?_ | refine rn_false rfl ?_ | refine rn_exit rfl ?_ | refine pl_not rfl rfl ?_)
  refine rn_ind (fun m σ w' => ∃ j S L wv Q n av pv, m = st.length - j ∧ j ≤ st.length ∧ Q.length ≤ j ∧ σ = [(0, lv), (1, .int .i64 at'), (5, .pointer (some ⟨B, 0, none⟩)), (6, .pointer (some ⟨p, 0, none⟩)), (7, .int .i64 (j : Nat))] ∧ DoesI B p w' S L wv Q n av pv ∧ Keep [] w w')
    (st.length - 0) _ ?_ ⟨0, _, _, _, _, _, _, _, rfl, Nat.zero_le _, Nat.le_refl _, rfl, hI0, hkw3⟩ ?_
  · exact ⟨rfl, rfl, rfl, rfl, rfl, trivial⟩
  clear hI0 hkw3
  rintro m σ w3 ih ⟨j, S, L, wv, Q, n, av, pv, hm, hj, hQj, rfl, hI, hk3⟩
  repeat (first | refine pl_pure hT rfl rfl rfl ?_ | refine pl_nil ?_ | refine rn_seq ?_ | refine rn_plain ?_ | refine rn_block ?_ | refine rn_inBlock ?_ | refine rn_skip ?_ | refine rn_true rfl ?_ | refine rn_false rfl ?_ | refine rn_exit rfl ?_ | refine pl_not rfl rfl ?_)
  refine pl_val (.int .i64 st.length) rfl rfl (val_pure hT (by subst hlv; rfl) w3) ?_
  rcases Nat.lt_or_ge j st.length with hlt | hge
  · refine pl_val (.bool true) rfl rfl (val_int .i64 _ _ _ rfl rfl rfl (by simp [intOp, hlt]) w3) ?_
    obtain ⟨s, hs⟩ : ∃ s, st[j]? = some s := ⟨st[j], List.getElem?_eq_getElem hlt⟩
    obtain ⟨b, q, cap, hlv', hbl0, hr0⟩ := hst.at hs
    have hr := hk3.range hr0 hbl0 (by simp)
    have hw8 := hst.wf s (List.mem_of_getElem? hs)
    have hs11 := scell_length hw8
    have hnext : ∀ (w4 : World) (S' : List Int) (L' : List Wr) (wv' : Value) (Q' : List Wr) (n' : Nat) (av' pv' : Value), DoesI B p w4 S' L' wv' Q' n' av' pv' → Keep [] w w4 → Q'.length ≤ j + 1 →
        Rn _ _ _ _ _ [(0, lv), (1, .int .i64 at'), (5, .pointer (some ⟨B, 0, none⟩)), (6, .pointer (some ⟨p, 0, none⟩)), (7, .int .i64 ((j + 1 : Nat) : Int))] w4 :=
      fun w4 S' L' wv' Q' n' av' pv' h4 hk4 hl4 => ih (st.length - (j + 1)) _ w4 (by omega) ⟨j + 1, S', L', wv', Q', n', av', pv', rfl, hlt, hl4, rfl, h4, hk4⟩
    clear ih
    repeat (first | refine pl_pure hT rfl rfl rfl ?_ | refine pl_nil ?_ | refine rn_seq ?_ | refine rn_plain ?_ | refine rn_block ?_ | refine rn_inBlock ?_ | refine rn_skip ?_ | refine rn_true rfl ?_ | refine rn_false rfl ?_ | refine rn_exit rfl ?_ | refine pl_not rfl rfl ?_)
    refine pl_val _ rfl rfl (val_index j hT rfl (by rw [hlv']; rfl) rfl rfl rfl hlt w3) ?_
    refine pl_val (.agg (scell s).toArray) rfl rfl (val_load _ hT rfl rfl (by rw [hs11]; rfl) hr) ?_
    refine pl_op rfl rfl (opTo_alloc _ rfl zero_step ?_)
    have hk4 : Keep [] w3 (w3.alloc (.cells (scell ⟨0, 0, List.replicate 8 0, 0⟩).toArray 35)) := (Keep.refl _ _).alloc _
    have hx4 : Blk (w3.alloc (.cells (scell ⟨0, 0, List.replicate 8 0, 0⟩).toArray 35)) w3.heap.size (scell ⟨0, 0, List.replicate 8 0, 0⟩) 35 := Blk.new _ _ _
    generalize (w3.alloc (.cells (scell ⟨0, 0, List.replicate 8 0, 0⟩).toArray 35)) = w4 at *
    refine pl_op rfl rfl (opTo_store _ rfl rfl rfl rfl (by rw [hs11]; decide +kernel) hx4 (by rw [hs11]; decide) (scell_one _) ?_)
    rw [splice_all (by rw [hs11]; rfl)]
    have hk5 : Keep [] w3 (w4.setRow w3.heap.size (scell s).toArray) := hk4.setRow _ _ (.inr (Nat.le_refl _))
    have hx5 := hx4.set (scell s)
    generalize (w4.setRow w3.heap.size (scell s).toArray) = w5 at *
    have hI5 := hI.keep hk5
    have hkw5 := hk3.tr0 hk5
    have hxd : w3.heap.size ∉ fpD B wv := fun hm => by have := (hI.disk.lt _ hm).2; omega
    have hxp : w3.heap.size ∉ fpP p av pv := fun hm => by have := (hI.plate.lt _ hm).2; omega
    generalize w3.heap.size = xb at *
    clear hI hk4 hx4 hr hr0 hk5
    refine pl_nil ?_
    refine rn_seq ?_
    -- behind the switch
    refine rn_with (fun σ w6 => ∃ S L wv Q n av pv, σ = [(0, lv), (1, .int .i64 at'), (5, .pointer (some ⟨B, 0, none⟩)), (6, .pointer (some ⟨p, 0, none⟩)), (7, .int .i64 (j : Nat)), (8, .pointer (some ⟨xb, 0, none⟩))] ∧ DoesI B p w6 S L wv Q n av pv ∧ Keep [] w w6 ∧ Q.length ≤ j + 1 ∧ Blk w6 xb (scell s) 35) ?_ ?_
    · rintro σ w6 ⟨S, L, wv, Q, n, av, pv, rfl, hI, hk6, hQ, hx6⟩
      have hle := hI.plate.le
      have hlen := hI.rel.len
      have hrd := hI.rel.read hI.plate.wf
      have hL : L.length < 1000000 := by omega
      have hQ' : Q.length < 1000000 := by omega
      have hrl : ∀ i, (readQ Q i).length = 8 := readQ_len hI.plate.wf
      obtain ⟨aa, ac, ea⟩ := hI.plate.oa.form
      have hxa : ∀ w', Keep [] w6 w' → w'.cell? ⟨xb, 0 + 1, none⟩ = some (.int .i64 s.a) := fun w' hk => (hk.blk hx6 (by simp)).cell rfl
      repeat (first | refine pl_pure hT rfl rfl rfl ?_ | refine pl_nil ?_ | refine rn_seq ?_ | refine rn_plain ?_ | refine rn_block ?_ | refine rn_inBlock ?_ | refine rn_skip ?_ | refine rn_true rfl ?_ | refine rn_false rfl ?_ | refine rn_exit rfl ?_ | refine pl_not rfl rfl ?_)
      have hS6 : Keep [] w6 w6.drew := (Keep.refl _ _).drew
      refine rn_draw (fun w' => Keep [] w6 w') [] hMix ?_
      refine dr_pure 0 hT rfl (by decide +kernel) rfl rfl rfl ?_
      refine dr_pure 2 hT rfl (by decide +kernel) rfl rfl rfl ?_
      refine dr_pure 3 hT rfl (by decide +kernel) rfl rfl rfl ?_
      refine dr_pure 4 hT rfl (by decide +kernel) rfl rfl rfl ?_
      refine dr_val 5 (.slice aa Q.length ac) rfl (by decide +kernel) rfl rfl (fun w' hk => val_load1 hT rfl rfl rfl ((hk.blk hI.plate.blk (by simp)).cell (by rw [ea]; rfl))) hS6 ?_
      refine dr_pure 6 hT rfl (by decide +kernel) rfl rfl rfl ?_
      refine dr_pure 7 hT rfl (by decide +kernel) rfl rfl rfl ?_
      refine dr_pure 8 hT rfl (by decide +kernel) rfl rfl rfl ?_
      refine dr_pure 9 hT rfl (by decide +kernel) rfl rfl rfl ?_
      refine dr_val 10 (.int .i64 (n : Nat)) rfl (by decide +kernel) rfl rfl (fun w' hk => val_load1 hT rfl rfl rfl ((hk.blk hI.plate.blk (by simp)).cell rfl)) hS6 ?_
      refine dr_any 11 (.int .i64 (L.length : Nat)) rfl (by decide +kernel) rfl rfl (fun w' => val_int .i64 _ _ _ rfl rfl rfl (by simp only [intOp]; rw [wrap_i64 (by omega) (by omega)]; congr 2; omega) w') ?_
      refine dr_op 1 rfl (by decide +kernel) rfl rfl (opTo_call rfl rfl rfl rfl (by decide +kernel) ((wait_ret (hI.disk.keep hS6 (by simp))).mono ?_))
      rintro v w7 ⟨rfl, rfl⟩
      refine ⟨fun _ => hS6, ?_⟩
      refine dr_any 12 (.bool false) rfl (by decide +kernel) rfl rfl (fun w' => val_int .i64 _ _ _ rfl rfl rfl (by simp [intOp]) w') ?_
      refine dr_pure 13 hT rfl (by decide +kernel) rfl rfl rfl ?_
      refine dr_pure 14 hT rfl (by decide +kernel) rfl rfl rfl ?_
      refine dr_pure 15 hT rfl (by decide +kernel) rfl rfl rfl ?_
      refine dr_pure 17 hT rfl (by decide +kernel) rfl rfl rfl ?_
      refine dr_pure 18 hT rfl (by decide +kernel) rfl rfl rfl ?_
      refine dr_op 16 rfl (by decide +kernel) rfl rfl (opTo_call rfl rfl rfl rfl (by decide +kernel) ((read_ret (hI.disk.keep hS6 (by simp)) hL at').mono ?_))
      rintro v w8 ⟨rfl, hk8⟩
      have hS8 := hS6.tr0 hk8
      refine ⟨fun _ => hS8, ?_⟩
      refine dr_op 19 rfl (by decide +kernel) rfl rfl (opTo_call rfl rfl rfl rfl (by decide +kernel) ((pRead_ret (hI.plate.keep hS8 (by simp)) at' hQ').mono ?_))
      rintro v w9 ⟨rfl, hk9⟩
      have hS9 := hS8.tr0 hk9
      refine ⟨fun _ => hS9, ?_⟩
      rw [hrd at']
      refine dr_any 20 (.bool false) rfl (by decide +kernel) rfl rfl (fun w' => val_neInts _ _ arrW rfl rfl rfl (hrl _) (hrl _) _ (by simp) w') ?_
      refine dr_pure 21 hT rfl (by decide +kernel) rfl rfl rfl ?_
      refine dr_pure 22 hT rfl (by decide +kernel) rfl rfl rfl ?_
      refine dr_pure 23 hT rfl (by decide +kernel) rfl rfl rfl ?_
      refine dr_pure 24 hT rfl (by decide +kernel) rfl rfl rfl ?_
      refine dr_val 25 (.int .i64 s.a) rfl (by decide +kernel) rfl rfl (fun w' hk => val_load1 hT rfl rfl rfl (hxa w' hk)) hS9 ?_
      refine dr_pure 27 hT rfl (by decide +kernel) rfl rfl rfl ?_
      refine dr_pure 28 hT rfl (by decide +kernel) rfl rfl rfl ?_
      refine dr_val 29 (.int .i64 s.a) rfl (by decide +kernel) rfl rfl (fun w' hk => val_load1 hT rfl rfl rfl (hxa w' hk)) hS9 ?_
      refine dr_op 26 rfl (by decide +kernel) rfl rfl (opTo_call rfl rfl rfl rfl (by decide +kernel) ((read_ret (hI.disk.keep hS9 (by simp)) hL s.a).mono ?_))
      rintro v w10 ⟨rfl, hk10⟩
      have hS10 := hS9.tr0 hk10
      refine ⟨fun _ => hS10, ?_⟩
      refine dr_op 30 rfl (by decide +kernel) rfl rfl (opTo_call rfl rfl rfl rfl (by decide +kernel) ((pRead_ret (hI.plate.keep hS10 (by simp)) s.a hQ').mono ?_))
      rintro v w11 ⟨rfl, hk11⟩
      have hS11 := hS10.tr0 hk11
      refine ⟨fun _ => hS11, ?_⟩
      rw [hrd s.a]
      refine dr_any 31 (.bool false) rfl (by decide +kernel) rfl rfl (fun w' => val_neInts _ _ arrW rfl rfl rfl (hrl _) (hrl _) _ (by simp) w') ?_
      refine dr_pure 32 hT rfl (by decide +kernel) rfl rfl rfl ?_
      refine dr_pure 33 hT rfl (by decide +kernel) rfl rfl rfl ?_
      refine dr_pure 34 hT rfl (by decide +kernel) rfl rfl rfl ?_
      refine dr_val 35 (.int .i64 s.a) rfl (by decide +kernel) rfl rfl (fun w' hk => val_load1 hT rfl rfl rfl (hxa w' hk)) hS11 ?_
      refine dr_pure 37 hT rfl (by decide +kernel) rfl rfl rfl ?_
      refine dr_val 38 (.int .i64 s.a) rfl (by decide +kernel) rfl rfl (fun w' hk => val_load1 hT rfl rfl rfl (hxa w' hk)) hS11 ?_
      refine dr_any 39 (.bool (decide (0 ≤ s.a))) rfl (by decide +kernel) rfl rfl (fun w' => val_int .i64 _ _ _ rfl rfl rfl (by simp [intOp]) w') ?_
      refine dr_op 36 rfl (by decide +kernel) rfl rfl (opTo_call rfl rfl rfl rfl (by decide +kernel) ((has_ret s.a w11).mono ?_))
      rintro v w12 ⟨rfl, rfl⟩
      refine ⟨fun _ => hS11, ?_⟩
      refine dr_pure 40 hT rfl (by decide +kernel) rfl rfl rfl ?_
      have hend : ∀ w', w' = w12 → Rn _ _ _ _ _ [(0, lv), (1, .int .i64 at'), (5, .pointer (some ⟨B, 0, none⟩)), (6, .pointer (some ⟨p, 0, none⟩)), (7, .int .i64 ((j + 1 : Nat) : Int))] w' :=
        fun w' e => hnext w' S L wv Q n av pv (hI.keep (e ▸ hS11)) (hk6.tr0 (e ▸ hS11)) hQ
      cases h0 : decide (0 ≤ s.a) with
      | true =>
        refine dr_pure 41 hT rfl (by decide +kernel) rfl rfl rfl ?_
        refine dr_val 42 (.int .i64 s.a) rfl (by decide +kernel) rfl rfl (fun w' hk => val_load1 hT rfl rfl rfl (hxa w' hk)) hS11 ?_
        refine dr_any 43 (.bool (decide (s.a < 34))) rfl (by decide +kernel) rfl rfl (fun w' => val_int .i64 _ _ _ rfl rfl rfl (by simp [intOp]) w') ?_
        refine dr_pure 44 hT rfl (by decide +kernel) rfl rfl rfl ?_
        refine dr_any 45 (.bool false) rfl (by decide +kernel) rfl rfl (fun w' => val_neBool _ _ _ (by decide +kernel) rfl rfl rfl (by simp [hasB, h0]) w') ?_
        refine dr_pure 46 hT rfl (by decide +kernel) rfl rfl rfl ?_
        refine dr_done (by decide +kernel) ?_
        repeat (first | refine pl_pure hT rfl rfl rfl ?_ | refine pl_nil ?_ | refine rn_seq ?_ | refine rn_plain ?_ | refine rn_block ?_ | refine rn_inBlock ?_ | refine rn_skip ?_ | refine rn_true rfl ?_ | refine rn_false rfl ?_ | refine rn_exit rfl ?_ | refine pl_not rfl rfl ?_)
        refine pl_val (.int .i64 ((j + 1 : Nat) : Int)) rfl rfl (val_int .i64 j 1 _ rfl rfl rfl (by simp only [intOp]; rw [wrap_i64 (by omega) (by omega)]; rfl) _) ?_
        repeat (first | refine pl_pure hT rfl rfl rfl ?_ | refine pl_nil ?_ | refine rn_seq ?_ | refine rn_plain ?_ | refine rn_block ?_ | refine rn_inBlock ?_ | refine rn_skip ?_ | refine rn_true rfl ?_ | refine rn_false rfl ?_ | refine rn_exit rfl ?_ | refine pl_not rfl rfl ?_)
        refine rn_sub ?_ (hend _ rfl)
        exact ⟨rfl, rfl, rfl, rfl, rfl, trivial⟩
      | false =>
        refine dr_not 41 rfl (by decide +kernel) rfl rfl ?_
        refine dr_not 42 rfl (by decide +kernel) rfl rfl ?_
        refine dr_not 43 rfl (by decide +kernel) rfl rfl ?_
        refine dr_pure 44 hT rfl (by decide +kernel) rfl rfl rfl ?_
        refine dr_any 45 (.bool false) rfl (by decide +kernel) rfl rfl (fun w' => val_neBool _ _ _ (by decide +kernel) rfl rfl rfl (by simp [hasB, h0]) w') ?_
        refine dr_pure 46 hT rfl (by decide +kernel) rfl rfl rfl ?_
        refine dr_done (by decide +kernel) ?_
        repeat (first | refine pl_pure hT rfl rfl rfl ?_ | refine pl_nil ?_ | refine rn_seq ?_ | refine rn_plain ?_ | refine rn_block ?_ | refine rn_inBlock ?_ | refine rn_skip ?_ | refine rn_true rfl ?_ | refine rn_false rfl ?_ | refine rn_exit rfl ?_ | refine pl_not rfl rfl ?_)
        refine pl_val (.int .i64 ((j + 1 : Nat) : Int)) rfl rfl (val_int .i64 j 1 _ rfl rfl rfl (by simp only [intOp]; rw [wrap_i64 (by omega) (by omega)]; rfl) _) ?_
        repeat (first | refine pl_pure hT rfl rfl rfl ?_ | refine pl_nil ?_ | refine rn_seq ?_ | refine rn_plain ?_ | refine rn_block ?_ | refine rn_inBlock ?_ | refine rn_skip ?_ | refine rn_true rfl ?_ | refine rn_false rfl ?_ | refine rn_exit rfl ?_ | refine pl_not rfl rfl ?_)
        refine rn_sub ?_ (hend _ rfl)
        exact ⟨rfl, rfl, rfl, rfl, rfl, trivial⟩
    intro hjoin
    clear hnext
    repeat (first | refine pl_pure hT rfl rfl rfl ?_ | refine pl_nil ?_ | refine rn_seq ?_ | refine rn_plain ?_ | refine rn_block ?_ | refine rn_inBlock ?_ | refine rn_skip ?_ | refine rn_true rfl ?_ | refine rn_false rfl ?_ | refine rn_exit rfl ?_ | refine pl_not rfl rfl ?_)
    refine pl_val (.int .i64 s.d) rfl rfl (val_load1 hT rfl rfl rfl (hx5.cell rfl)) ?_
    repeat (first | refine pl_pure hT rfl rfl rfl ?_ | refine pl_nil ?_ | refine rn_seq ?_ | refine rn_plain ?_ | refine rn_block ?_ | refine rn_inBlock ?_ | refine rn_skip ?_ | refine rn_true rfl ?_ | refine rn_false rfl ?_ | refine rn_exit rfl ?_ | refine pl_not rfl rfl ?_)
    have hdwf := hI5.disk.wf
    have hS5 := hI5.disk.len
    have hpwf := hI5.plate.wf
    have hle := hI5.plate.le
    have hlen := hI5.rel.len
    have hL : L.length < 1000000 := by omega
    have hQ' : Q.length < 1000000 := by omega
    have hsz : ∀ k ∈ fpP p av pv, k < w5.heap.size := fun k hk => (hI5.plate.lt k hk).2
    have hszd : ∀ k ∈ fpD B wv, k < w5.heap.size := fun k hk => (hI5.disk.lt k hk).2
    have hpB : ∀ k ∈ fpP p av pv, B ≤ k := fun k hk => (hI5.plate.lt k hk).1
    have hdB : ∀ k ∈ fpD B wv, B ≤ k := fun k hk => (hI5.disk.lt k hk).1
    have hpp : p ∈ fpP p av pv := mem_fpP.2 (.inl rfl)
    have hBd : B ∈ fpD B wv := by simp [fpD]
    have hpne : p ≠ B := fun e => hI5.apart B hBd (e ▸ hpp)
    have hxne : xb ≠ B := fun e => hxd (e ▸ hBd)
    have hxnp : xb ≠ p := fun e => hxp (e ▸ hpp)
    by_cases h0 : s.d = 0
    · refine pl_val (.bool true) rfl rfl (val_int .i64 _ _ _ rfl rfl rfl (by simp [intOp, h0]) w5) ?_
      repeat (first | refine pl_pure hT rfl rfl rfl ?_ | refine pl_nil ?_ | refine rn_seq ?_ | refine rn_plain ?_ | refine rn_block ?_ | refine rn_inBlock ?_ | refine rn_skip ?_ | refine rn_true rfl ?_ | refine rn_false rfl ?_ | refine rn_exit rfl ?_ | refine pl_not rfl rfl ?_)
      have hSx : Blk w5.drew xb (scell s) 35 := hx5.drew
      have hkd : Keep [] w5 w5.drew := (Keep.refl _ _).drew
      have hId := hI5.keep hkd
      refine rn_draw (fun w' => Blk w' xb (scell s) 35) [] hMix ?_
      refine dr_pure 0 hT rfl (by decide +kernel) rfl rfl rfl ?_
      refine dr_pure 1 hT rfl (by decide +kernel) rfl rfl rfl ?_
      refine dr_val 2 (.int .i64 s.a) rfl (by decide +kernel) rfl rfl (fun w' hb => val_load1 hT rfl rfl rfl (hb.cell rfl)) hSx ?_
      refine dr_pure 3 hT rfl (by decide +kernel) rfl rfl rfl ?_
      refine dr_val 4 (.agg (ints s.ws).toArray) rfl (by decide +kernel) rfl rfl (fun w' hb => val_load _ hT rfl rfl (by rw [ints_length, hw8]; rfl) (hb.range (by simp [scell]))) hSx ?_
      refine dr_pure 6 hT rfl (by decide +kernel) rfl rfl rfl ?_
      refine dr_pure 7 hT rfl (by decide +kernel) rfl rfl rfl ?_
      refine dr_val 8 (.int .i64 s.a) rfl (by decide +kernel) rfl rfl (fun w' hb => val_load1 hT rfl rfl rfl (hb.cell rfl)) hSx ?_
      refine dr_pure 9 hT rfl (by decide +kernel) rfl rfl rfl ?_
      refine dr_val 10 (.agg (ints s.ws).toArray) rfl (by decide +kernel) rfl rfl (fun w' hb => val_load _ hT rfl rfl (by rw [ints_length, hw8]; rfl) (hb.range (by simp [scell]))) hSx ?_
      refine dr_op 5 rfl (by decide +kernel) rfl rfl (opTo_call rfl rfl rfl rfl (by decide +kernel) ((write_ret hId.disk s.a (ws := s.ws) hw8 hL).mono ?_))
      rintro v w6 ⟨rfl, wv', h6, hk6, hf6⟩
      have hx6 := hk6.blk hSx hxd
      refine ⟨fun _ => hx6, ?_⟩
      have hp6 := hId.plate.keep hk6 fun k hk hd => hI5.apart k hd hk
      refine dr_op 11 rfl (by decide +kernel) rfl rfl (opTo_call rfl rfl rfl rfl (by decide +kernel) ((pWrite_ret hp6 s.a (ws := s.ws) hw8 hQ').mono ?_))
      rintro v w7 ⟨rfl, av', pv', h7, hk7, hf7⟩
      have hx7 := hk7.blk hx6 hxp
      refine ⟨fun _ => hx7, ?_⟩
      have hlt6 := h6.lt
      have hd7 := h6.keep hk7 fun k hk hp => by
        rcases hf6 k hk with hd | hd
        · exact hI5.apart k hd hp
        · have := hsz k hp
          exact absurd this (Nat.not_lt.2 hd)
      have hkw7 : Keep [] w w7 := ((hkw5.tr0 hkd).trans hk6 fun k hk => .inr (by have := hdB k hk; omega)).trans hk7 fun k hk => .inr (by have := hpB k hk; omega)
      have hap : ∀ k ∈ fpD B wv', k ∉ fpP p av' pv' := fun k hk hp => by
        have hk6' := (hlt6 k hk).2
        rcases hf7 k hp with hp' | hp'
        · rcases hf6 k hk with hd | hd
          · exact hI5.apart k hd hp'
          · have := hsz k hp'
            exact absurd this (Nat.not_lt.2 hd)
        · omega
      refine dr_any 12 (.bool false) rfl (by decide +kernel) rfl rfl (fun w' => val_neBool _ _ _ (by decide +kernel) rfl rfl rfl (by simp) w') ?_
      refine dr_done (by decide +kernel) ?_
      repeat (first | refine pl_pure hT rfl rfl rfl ?_ | refine pl_nil ?_ | refine rn_inBlock ?_ | refine rn_skip ?_ | refine rn_true rfl ?_ | refine rn_false rfl ?_ | refine rn_exit rfl ?_)
      refine rn_sub ?_ (hjoin _ w7 ⟨S, _, wv', _, n, av', pv', rfl, ⟨hd7, h7, ?_, hap⟩, hkw7, ?_, hx7⟩)
      · exact ⟨rfl, rfl, rfl, rfl, rfl, rfl, trivial⟩
      · cases hasB s.a with
        | false => exact hI5.rel
        | true => exact hI5.rel.write hle _
      · split
        · simp; omega
        · omega
    refine pl_val (.bool false) rfl rfl (val_int .i64 _ _ _ rfl rfl rfl (by simp [intOp, h0]) w5) ?_
    repeat (first | refine pl_pure hT rfl rfl rfl ?_ | refine pl_nil ?_ | refine rn_seq ?_ | refine rn_plain ?_ | refine rn_block ?_ | refine rn_inBlock ?_ | refine rn_skip ?_ | refine rn_true rfl ?_ | refine rn_false rfl ?_ | refine rn_exit rfl ?_ | refine pl_not rfl rfl ?_)
    by_cases h1 : s.d = 1
    · refine pl_val (.bool true) rfl rfl (val_int .i64 _ _ _ rfl rfl rfl (by simp [intOp, h1]) w5) ?_
      repeat (first | refine pl_pure hT rfl rfl rfl ?_ | refine pl_nil ?_ | refine rn_seq ?_ | refine rn_plain ?_ | refine rn_block ?_ | refine rn_inBlock ?_ | refine rn_skip ?_ | refine rn_true rfl ?_ | refine rn_false rfl ?_ | refine rn_exit rfl ?_ | refine pl_not rfl rfl ?_)
      refine pl_op rfl rfl (opTo_call rfl rfl rfl rfl (by decide +kernel) ((flush_ret hI5.disk hL).mono ?_))
      rintro v w6 ⟨rfl, h6, hk6⟩
      have hx6 := hk6.blk hx5 (by simpa using hxne)
      have hp6 := hI5.plate.keep hk6 fun k hk hd => by simp only [List.mem_singleton] at hd; subst hd; exact hI5.apart _ hBd hk
      repeat (first | refine pl_pure hT rfl rfl rfl ?_ | refine pl_nil ?_ | refine rn_seq ?_ | refine rn_plain ?_ | refine rn_block ?_ | refine rn_inBlock ?_ | refine rn_skip ?_ | refine rn_true rfl ?_ | refine rn_false rfl ?_ | refine rn_exit rfl ?_ | refine pl_not rfl rfl ?_)
      refine pl_op rfl rfl (opTo_call rfl rfl rfl rfl (by decide +kernel) ((pFlush_ret hp6).mono ?_))
      rintro v w7 ⟨rfl, h7, hk7⟩
      have hx7 := hk7.blk hx6 (by simpa using hxnp)
      have hd7 := h6.keep hk7 fun k hk hp => by
        simp [fpD, Value.ownBlock] at hk hp
        omega
      have hkw7 : Keep [] w w7 := (hkw5.trans hk6 fun k hk => .inr (by simp at hk; omega)).trans hk7 fun k hk => .inr (by simp at hk; have := hpB p hpp; omega)
      repeat (first | refine pl_pure hT rfl rfl rfl ?_ | refine pl_nil ?_ | refine rn_inBlock ?_ | refine rn_skip ?_ | refine rn_true rfl ?_ | refine rn_false rfl ?_ | refine rn_exit rfl ?_)
      refine rn_sub ?_ (hjoin _ w7 ⟨_, [], _, Q, Q.length, av, pv, rfl, ⟨hd7, h7, hI5.rel.flush hS5 hdwf hpwf, ?_⟩, hkw7, by omega, hx7⟩)
      · exact ⟨rfl, rfl, rfl, rfl, rfl, rfl, trivial⟩
      · intro k hk
        simp [fpD, Value.ownBlock] at hk
        subst hk
        exact hI5.apart _ hBd
    refine pl_val (.bool false) rfl rfl (val_int .i64 _ _ _ rfl rfl rfl (by simp [intOp, h1]) w5) ?_
    repeat (first | refine pl_pure hT rfl rfl rfl ?_ | refine pl_nil ?_ | refine rn_seq ?_ | refine rn_plain ?_ | refine rn_block ?_ | refine rn_inBlock ?_ | refine rn_skip ?_ | refine rn_true rfl ?_ | refine rn_false rfl ?_ | refine rn_exit rfl ?_ | refine pl_not rfl rfl ?_)
    by_cases h2 : s.d = 2
    · refine pl_val (.bool true) rfl rfl (val_int .i64 _ _ _ rfl rfl rfl (by simp [intOp, h2]) w5) ?_
      repeat (first | refine pl_pure hT rfl rfl rfl ?_ | refine pl_nil ?_ | refine rn_seq ?_ | refine rn_plain ?_ | refine rn_block ?_ | refine rn_inBlock ?_ | refine rn_skip ?_ | refine rn_true rfl ?_ | refine rn_false rfl ?_ | refine rn_exit rfl ?_ | refine pl_not rfl rfl ?_)
      refine pl_val (.int .u64 s.m) rfl rfl (val_load1 hT rfl rfl rfl (hx5.cell (by simp [scell, ints_length, hw8]))) ?_
      refine pl_op rfl rfl (opTo_call rfl rfl rfl rfl (by decide +kernel) ((crash_ret hI5.disk hL s.m).mono ?_))
      rintro v w6 ⟨rfl, h6, hk6⟩
      have hx6 := hk6.blk hx5 (by simpa using hxne)
      have hp6 := hI5.plate.keep hk6 fun k hk hd => by simp only [List.mem_singleton] at hd; subst hd; exact hI5.apart _ hBd hk
      have hs6 := hk6.size
      repeat (first | refine pl_pure hT rfl rfl rfl ?_ | refine pl_nil ?_ | refine rn_seq ?_ | refine rn_plain ?_ | refine rn_block ?_ | refine rn_inBlock ?_ | refine rn_skip ?_ | refine rn_true rfl ?_ | refine rn_false rfl ?_ | refine rn_exit rfl ?_ | refine pl_not rfl rfl ?_)
      refine pl_val (.int .u64 s.m) rfl rfl (val_load1 hT rfl rfl rfl (hx6.cell (by simp [scell, ints_length, hw8]))) ?_
      refine pl_op rfl rfl (opTo_call rfl rfl rfl rfl (by decide +kernel) ((pCrash_ret hp6 s.m hQ').mono ?_))
      rintro v w7 ⟨rfl, av', pv', h7, hk7, hf7⟩
      have hx7 := hk7.blk hx6 (by simpa using hxnp)
      have hd7 := h6.keep hk7 fun k hk hp => by
        simp [fpD, Value.ownBlock] at hk hp
        omega
      have hkw7 : Keep [] w w7 := (hkw5.trans hk6 fun k hk => .inr (by simp at hk; omega)).trans hk7 fun k hk => .inr (by simp at hk; have := hpB p hpp; omega)
      have hkl := kept_len (stays := maskB s.m) (L := Q.drop n) (j := Q.length - n) (by simp)
      have hBlt := hszd B hBd
      repeat (first | refine pl_pure hT rfl rfl rfl ?_ | refine pl_nil ?_ | refine rn_inBlock ?_ | refine rn_skip ?_ | refine rn_true rfl ?_ | refine rn_false rfl ?_ | refine rn_exit rfl ?_)
      refine rn_sub ?_ (hjoin _ w7 ⟨_, [], _, _, _, av', pv', rfl, ⟨hd7, h7, hI5.rel.crash hle hS5 hdwf _, ?_⟩, hkw7, ?_, hx7⟩)
      · exact ⟨rfl, rfl, rfl, rfl, rfl, rfl, trivial⟩
      · intro k hk hp
        simp [fpD, Value.ownBlock] at hk
        subst hk
        rcases hf7 _ hp with hp | hp
        · exact hI5.apart _ hBd hp
        · omega
      · rw [List.length_append, List.length_take]
        omega
    refine pl_val (.bool false) rfl rfl (val_int .i64 _ _ _ rfl rfl rfl (by simp [intOp, h2]) w5) ?_
    repeat (first | refine pl_pure hT rfl rfl rfl ?_ | refine pl_nil ?_ | refine rn_inBlock ?_ | refine rn_skip ?_ | refine rn_true rfl ?_ | refine rn_false rfl ?_ | refine rn_exit rfl ?_)
    refine rn_sub ?_ (hjoin _ w5 ⟨S, L, wv, Q, n, av, pv, rfl, hI5, hkw5, by omega, hx5⟩)
    exact ⟨rfl, rfl, rfl, rfl, rfl, rfl, trivial⟩
  clear ih
  refine pl_val (.bool false) rfl rfl (val_int .i64 _ _ _ rfl rfl rfl (by simp [intOp]; omega) w3) ?_
  have hQ' : Q.length < 1000000 := by omega
  repeat (first | refine pl_pure hT rfl rfl rfl ?_ | refine pl_nil ?_ | refine rn_seq ?_ | refine rn_plain ?_ | refine rn_block ?_ | refine rn_inBlock ?_ | refine rn_skip ?_ | refine rn_true rfl ?_ | refine rn_false rfl ?_ | refine rn_exit rfl ?_ | refine pl_not rfl rfl ?_)
  refine pl_op rfl rfl (opTo_call rfl rfl rfl rfl (by decide +kernel) ((sure_ret hI.disk).mono ?_))
  rintro v w4 ⟨gs, cs, rfl, hos, hk4⟩
  have hp4 := hI.plate.keep hk4 (by simp)
  have hkw4 := hk3.tr0 hk4
  have hS := hI.disk.len
  have hsec := hI.rel.sec
  have hrl : ∀ i, (readQ (Q.take n) i).length = 8 := readQ_len fun q hq => hI.plate.wf q (List.mem_of_mem_take hq)
  clear hI
  repeat (first | refine pl_pure hT rfl rfl rfl ?_ | refine pl_nil ?_ | refine rn_seq ?_ | refine rn_plain ?_ | refine rn_block ?_ | refine rn_inBlock ?_ | refine rn_skip ?_ | refine rn_true rfl ?_ | refine rn_false rfl ?_ | refine rn_exit rfl ?_ | refine pl_not rfl rfl ?_)
  refine rn_ind (fun m σ w' => ∃ k, m = 34 - k ∧ k ≤ 34 ∧ σ = [(6, .pointer (some ⟨p, 0, none⟩)), (9, .slice (some ⟨gs, 0, none⟩) 34 cs), (10, .int .i64 (k : Nat))] ∧ Keep [] w4 w')
    34 _ ?_ ⟨0, rfl, by decide, rfl, Keep.refl _ _⟩ ?_
  · exact ⟨rfl, rfl, rfl, trivial⟩
  rintro m σ w5 ih ⟨k, hm, hk, rfl, hk5⟩
  repeat (first | refine pl_pure hT rfl rfl rfl ?_ | refine pl_nil ?_ | refine rn_seq ?_ | refine rn_plain ?_ | refine rn_block ?_ | refine rn_inBlock ?_ | refine rn_skip ?_ | refine rn_true rfl ?_ | refine rn_false rfl ?_ | refine rn_exit rfl ?_ | refine pl_not rfl rfl ?_)
  rcases Nat.lt_or_ge k 34 with hlt | hge
  · refine pl_val (.bool true) rfl rfl (val_int .i64 _ _ _ rfl rfl rfl (by simp [intOp]; omega) w5) ?_
    repeat (first | refine pl_pure hT rfl rfl rfl ?_ | refine pl_nil ?_ | refine rn_seq ?_ | refine rn_plain ?_ | refine rn_block ?_ | refine rn_inBlock ?_ | refine rn_skip ?_ | refine rn_true rfl ?_ | refine rn_false rfl ?_ | refine rn_exit rfl ?_ | refine pl_not rfl rfl ?_)
    have hl8 : (ints (sector S k)).length = 8 := by rw [ints_length, sector_length hS hlt]
    have hS5 : Keep [] w5 w5.drew := (Keep.refl _ _).drew
    refine rn_draw (fun w' => Keep [] w5 w') [] hMix ?_
    refine dr_pure 0 hT rfl (by decide +kernel) rfl rfl rfl ?_
    refine dr_pure 1 hT rfl (by decide +kernel) rfl rfl rfl ?_
    refine dr_any 2 _ rfl (by decide +kernel) rfl rfl (fun w' => val_index k hT rfl rfl rfl rfl rfl hlt w') ?_
    refine dr_val 3 (.agg (ints (sector S k)).toArray) rfl (by decide +kernel) rfl rfl (fun w' hk' => val_load _ hT rfl rfl (by rw [hl8]; rfl) (sure_at ((hk5.tr0 hk').owns hos (by simp)) hS hlt)) hS5 ?_
    refine dr_pure 4 hT rfl (by decide +kernel) rfl rfl rfl ?_
    refine dr_pure 5 hT rfl (by decide +kernel) rfl rfl rfl ?_
    refine dr_op 6 rfl (by decide +kernel) rfl rfl (opTo_call rfl rfl rfl rfl (by decide +kernel) ((pHolds_ret (hp4.keep (hk5.tr0 hS5) (by simp)) k hQ').mono ?_))
    rintro v w6 ⟨rfl, hk6⟩
    have hS6 := hS5.tr0 hk6
    refine ⟨fun _ => hS6, ?_⟩
    rw [hsec k hlt]
    refine dr_any 7 (.bool false) rfl (by decide +kernel) rfl rfl (fun w' => val_neInts _ _ arrW rfl rfl rfl (hrl _) (hrl _) _ (by simp) w') ?_
    refine dr_done (by decide +kernel) ?_
    repeat (first | refine pl_pure hT rfl rfl rfl ?_ | refine pl_nil ?_ | refine rn_seq ?_ | refine rn_plain ?_ | refine rn_block ?_ | refine rn_inBlock ?_ | refine rn_skip ?_ | refine rn_true rfl ?_ | refine rn_false rfl ?_ | refine rn_exit rfl ?_ | refine pl_not rfl rfl ?_)
    refine pl_val (.int .i64 ((k + 1 : Nat) : Int)) rfl rfl (val_int .i64 k 1 _ rfl rfl rfl (by simp only [intOp]; rw [wrap_i64 (by omega) (by omega)]; rfl) _) ?_
    repeat (first | refine pl_pure hT rfl rfl rfl ?_ | refine pl_nil ?_ | refine rn_seq ?_ | refine rn_plain ?_ | refine rn_block ?_ | refine rn_inBlock ?_ | refine rn_skip ?_ | refine rn_true rfl ?_ | refine rn_false rfl ?_ | refine rn_exit rfl ?_ | refine pl_not rfl rfl ?_)
    refine rn_sub ?_ (ih (34 - (k + 1)) _ _ (by omega) ⟨k + 1, rfl, hlt, rfl, hk5.tr0 hS6⟩)
    exact ⟨rfl, rfl, rfl, trivial⟩
  refine pl_val (.bool false) rfl rfl (val_int .i64 _ _ _ rfl rfl rfl (by simp [intOp]; omega) w5) ?_
  repeat (first | refine pl_pure hT rfl rfl rfl ?_ | refine pl_nil ?_ | refine rn_seq ?_ | refine rn_plain ?_ | refine rn_block ?_ | refine rn_inBlock ?_ | refine rn_skip ?_ | refine rn_true rfl ?_ | refine rn_false rfl ?_ | refine rn_exit rfl ?_ | refine pl_not rfl rfl ?_)
  refine pl_val (.bool true) rfl rfl (val_int .i64 34 34 _ rfl rfl rfl rfl _) ?_
  repeat (first | refine pl_pure hT rfl rfl rfl ?_ | refine pl_nil ?_ | refine rn_seq ?_ | refine rn_plain ?_ | refine rn_block ?_ | refine rn_inBlock ?_ | refine rn_skip ?_ | refine rn_true rfl ?_ | refine rn_false rfl ?_ | refine rn_exit rfl ?_ | refine pl_not rfl rfl ?_)
  exact rn_ret Try.func3 (.inl ⟨_, rfl, rfl⟩) ⟨rfl, hkw4.tr0 hk5⟩
end E
end Go.Proofs.Ytoegglcdpdohdaa
