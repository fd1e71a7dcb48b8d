/- Several texts in one: PgE, PgF. -/
import Derived.Test.YthbkcadiejfgaacGreatDoorJ18
/- The landed reader: an expression. -/
namespace Go.Proofs.YthbkcadiejfgaacGreatDoor
set_option maxRecDepth 20000
set_option maxHeartbeats 4000000
namespace E
open Go.Proofs

section
variable {w0 w w' : World} {lv vv : Value} {ts : List Tok} {fin b i : Nat} {vs : List VarT}
theorem Rd.put {c : Nat} {L : List Value} {e : TypeId} (h : Rd w0 lv ts fin b vv vs w i) (hb : Blk w c L e) (hc : w0.heap.size ≤ c) (hk : Keep [c] w w') (he : e ≠ 71 ∧ e ≠ 57 ∧ e ≠ 78) : Rd w0 lv ts fin b vv vs w' i :=
  h.keepT hk (fun k hk' => by simp at hk'; subst hk'; exact ⟨hc, L, e, hb, he.1, he.2.1, he.2.2⟩)
theorem Rd.app {B e size ln m g : Nat} {sl : Value} {xs : List Value} (h : Rd w0 lv ts fin b vv vs w i) (hown : Own w B e size sl ln xs) (hB : w0.heap.size ≤ B) (he : e ≠ 71 ∧ e ≠ 57 ∧ e ≠ 78)
    (hor : (sl.ownBlock = some g ∧ ln + m ≤ capOf sl ∧ Keep [g] w w') ∨ (g = w.heap.size ∧ Keep [] w w' ∧ w'.heap.size = w.heap.size + 1)) : Rd w0 lv ts fin b vv vs w' i := by
  rcases hor with ⟨h1, _, h2⟩ | ⟨_, h2, _⟩
  · rcases hown.2 with ⟨hv, _⟩ | ⟨g', c', cur', hv, hB', hg', _⟩
    · rw [hv] at h1; simp [Value.ownBlock] at h1
    · rw [hv] at h1
      simp [Value.ownBlock] at h1
      subst h1
      exact h.put hg' (by omega) h2 he
  · exact h.keep0 h2

/-- An expression that was made since w. -/
def XpR (w w' : World) (r : Value) (t : ET) : Prop := ∃ (cs : List Value) (F : Nat → Prop), r = .agg cs.toArray ∧ ExprV F w' cs t ∧ ∀ c, F c → w.heap.size ≤ c ∧ c < w'.heap.size

theorem expr_end (hct : Ct ts) (hw0 : Lw w0) (hvl : vs.length ≤ 100000) : ∀ (f deep i : Nat) {w : World}, deep + f = 13 → Rd w0 lv ts fin b vv vs w i →
    Goes 98 [.pointer (some ⟨b, 0, none⟩), .int .i64 (deep : Nat)] w0 w (exprP ts fin vs f i) fun q r w' => XpR w w' r q.1 ∧ Rd w0 lv ts fin b vv vs w' q.2 ∧ Keep [b] w w' := by
  intro f
  induction f using Nat.strongRecOn with
  | _ f ih =>
  intro deep i w hdf h
  have hbw := h.lt
  refine end_of 42 Tryz.func98 rfl rfl (by simp) ?_
  (repeat (first | refine pl_pure hT rfl rfl rfl ?_ | refine pl_nil ?_ | refine rn_seq ?_ | refine rn_plain ?_ | refine rn_block ?_ | refine rn_inBlock ?_ | refine rn_skip ?_ | refine rn_true rfl ?_ | refine rn_false rfl ?_ | refine rn_exit rfl ?_ | refine pl_not rfl rfl ?_))
  refine pl_op rfl rfl (opTo_allocN _ rfl zero_ex ?_)
  intro w1 b4 hb40 hs1 hk1 hz1
  have h1 := h.keep0 hk1
  (repeat (first | refine pl_pure hT rfl rfl rfl ?_ | refine pl_nil ?_ | refine rn_seq ?_ | refine rn_plain ?_ | refine rn_block ?_ | refine rn_inBlock ?_ | refine rn_skip ?_ | refine rn_true rfl ?_ | refine rn_false rfl ?_ | refine rn_exit rfl ?_ | refine pl_not rfl rfl ?_))
  obtain ⟨one, hone⟩ : ∃ one, one = exprP ts fin vs (f - 1) := ⟨_, rfl⟩
  rw [exprP_eq ts fin vs hdf i, ← hone]
  obtain ⟨TOT, hTOT⟩ : ∃ TOT, TOT = bnd (bnd (if 12 < deep then .error (wrongAt ts fin 4 i) else .ok i) (beginP ts fin wordT 8)) (fun (k, i1) => rest1 ts fin vs one k i1) := ⟨_, rfl⟩
  rw [← hTOT]
  refine pl_opE Tryz.func98 rfl rfl (opE_call (fst := []) (cap := []) rfl rfl rfl rfl (by decide +kernel) (End.mono (begin_end hct hw0 h1 wr_word deep) ?_ ?_))
  rotate_left
  · rintro v w2 ⟨e, hX, r⟩
    exact ⟨e, by rw [hTOT, hX]; rfl, r⟩
  rintro r w2 ⟨⟨kk, i1⟩, hX1, rfl, h2, hk2⟩
  rw [hX1] at hTOT
  have hT1 : TOT = rest1 ts fin vs one kk i1 := hTOT
  have hd : ¬ 12 < deep := by
    intro hd
    rw [if_pos hd] at hX1
    cases hX1
  rw [if_neg hd] at hX1
  obtain ⟨_, _, hkk1, hkk8⟩ := beginP_ok (show beginP ts fin wordT 8 i = .ok (kk, i1) from hX1)
  dsimp only at hkk1 hkk8
  have hz2 := hk2.blk hz1 (by simp; omega)
  have hk02 : Keep [b] w w2 := (Keep.of0 hk1).tr hk2
  have hw2 : w1.heap.size ≤ w2.heap.size := hk2.size
  refine pl_val _ rfl rfl (val_build _ rfl rfl (built_expr (kk : Nat)) w2) ?_
  refine pl_op rfl rfl (opTo_allocN _ rfl zero_ex ?_)
  intro w3 b5 hb50 hs3 hk3 hz3
  refine pl_op rfl rfl (opTo_storeN (xC (kk : Nat) 0 0 (.slice none 0 0)) rfl rfl rfl rfl size_expr hz3 (by simp [xC]) (xC_one rfl) ?_)
  intro w4 hs4 hk4 hz4
  rw [splice_whole (by rfl)] at hz4
  have hk24 : Keep [] w2 w4 := hk3.trB hk4 (by omega)
  have h4 := h2.keep0 hk24
  have hy4 := hk24.blk hz2 (by simp)
  have hk04 : Keep [b] w w4 := hk02.tr0 hk24
  obtain ⟨B, hB⟩ : ∃ B, B = w4.heap.size := ⟨_, rfl⟩
  have hB4 : b4 < B := by have := hy4.lt; omega
  have hB5 : b5 < B := by have := hz4.lt; omega
  have hbB : b < B := by have := hk04.size; omega
  have hb45 : b4 ≠ b5 := by omega
  have hbb4 : b ≠ b4 := by omega
  have hbb5 : b ≠ b5 := by omega
  have hBw : w.heap.size ≤ B := by have := hk04.size; omega
  have hw0B : w0.heap.size ≤ b5 := by have := h.kp.size; omega
  (repeat (first | refine pl_pure hT rfl rfl rfl ?_ | refine pl_not rfl rfl ?_ | refine pl_nil ?_ | refine rn_inBlock ?_ | refine rn_skip ?_ | refine rn_true rfl ?_ | refine rn_false rfl ?_ | refine rn_exit rfl ?_))
  refine rn_seq ?_
  refine rn_with (fun σ' w' => ∃ (n : Int) (v i3 : Nat), TOT = rest3 ts fin one kk n v i3 ∧ Rd w0 lv ts fin b vv vs w' i3 ∧
    Blk w' b5 (xC (kk : Nat) (v : Nat) n (.slice none 0 0)) 41 ∧ Blk w' b4 [.int .i64 0, .int .i64 0, .int .i64 0, .slice none 0 0] 41 ∧ Keep [b] w w' ∧ B ≤ w'.heap.size ∧
    Sub [(0, .pointer (some ⟨b, 0, none⟩)), (1, .int .i64 (deep : Nat)), (4, .pointer (some ⟨b4, 0, none⟩)), (5, .pointer (some ⟨b5, 0, none⟩))] σ') ?_ ?_
  rotate_left
  · intro fin1
    refine rn_seq ?_
    refine rn_plain ?_
    (repeat (first | refine pl_pure hT rfl rfl rfl ?_ | refine pl_not rfl rfl ?_ | refine pl_nil ?_ | refine rn_inBlock ?_ | refine rn_skip ?_ | refine rn_true rfl ?_ | refine rn_false rfl ?_ | refine rn_exit rfl ?_))
    refine pl_val _ rfl rfl (val_load1 hT rfl rfl rfl (hz4.cell rfl)) ?_
    (repeat (first | refine pl_pure hT rfl rfl rfl ?_ | refine pl_not rfl rfl ?_ | refine pl_nil ?_ | refine rn_inBlock ?_ | refine rn_skip ?_ | refine rn_true rfl ?_ | refine rn_false rfl ?_ | refine rn_exit rfl ?_))
    refine rn_block ?_
    refine rn_seq ?_
    refine rn_plain ?_
    by_cases hk1' : kk = 1
    · refine pl_yes rfl rfl rfl rfl rfl (by first | (simp only [cmpP]; omega) | (simp [cmpP]; done) | (simp [cmpP]; omega)) ?_
      (repeat (first | refine pl_pure hT rfl rfl rfl ?_ | refine pl_not rfl rfl ?_ | refine pl_nil ?_ | refine rn_inBlock ?_ | refine rn_skip ?_ | refine rn_true rfl ?_ | refine rn_false rfl ?_ | refine rn_exit rfl ?_))
      refine rn_plain ?_
      (repeat (first | refine pl_pure hT rfl rfl rfl ?_ | refine pl_not rfl rfl ?_ | refine pl_nil ?_ | refine rn_inBlock ?_ | refine rn_skip ?_ | refine rn_true rfl ?_ | refine rn_false rfl ?_ | refine rn_exit rfl ?_))
      have hT2 : TOT = bnd (takeP ts fin (fun t => t.num) i1) fun q => rest2 ts fin vs one kk q.1.val q.2 := by
        rw [hT1]
        unfold rest1
        rw [if_pos hk1', num_take]
        cases takeP ts fin (fun t => t.num) i1 <;> rfl
      refine pl_opE Tryz.func98 rfl rfl (opE_call (fst := []) (cap := []) rfl rfl rfl rfl (by decide +kernel) (End.mono (takeNum_end h4) ?_ ?_))
      rotate_left
      · rintro v w5 ⟨e, hX, r⟩
        exact ⟨e, by rw [hT2, hX]; rfl, r⟩
      rintro r w5 ⟨⟨t, j⟩, hX, rfl, h5, hk5⟩
      rw [hX] at hT2
      have hT3 : TOT = rest2 ts fin vs one kk t.val j := hT2
      have hz5 := hk5.blk hz4 (by simp; omega)
      have hy5 := hk5.blk hy4 (by simp; omega)
      refine pl_val _ rfl rfl (val_field1 3 (tokL t) rfl rfl (by decide +kernel) rfl w5) ?_
      (repeat (first | refine pl_pure hT rfl rfl rfl ?_ | refine pl_not rfl rfl ?_ | refine pl_nil ?_ | refine rn_inBlock ?_ | refine rn_skip ?_ | refine rn_true rfl ?_ | refine rn_false rfl ?_ | refine rn_exit rfl ?_))
      refine pl_op rfl rfl (opTo_storeN [.int .i64 t.val] rfl rfl rfl rfl size_long hz5 (by simp [xC]) (by simp; rfl) ?_)
      intro w6 hs6 hk6 hz6
      have hsp : splice (xC (kk : Nat) 0 0 (.slice none 0 0)) 2 [.int .i64 t.val] = xC (kk : Nat) 0 t.val (.slice none 0 0) := rfl
      rw [hsp] at hz6
      (repeat (first | refine pl_pure hT rfl rfl rfl ?_ | refine pl_not rfl rfl ?_ | refine pl_nil ?_ | refine rn_inBlock ?_ | refine rn_skip ?_ | refine rn_true rfl ?_ | refine rn_false rfl ?_ | refine rn_exit rfl ?_))
      refine fin1 _ _ ⟨t.val, 0, j, ?_, h5.put hz5 hw0B hk6 (by decide), hz6, hk6.blk hy5 (by simp; omega), (hk04.tr hk5).trB hk6 (by omega), ?_, rfl, rfl, rfl, rfl, trivial⟩
      · rw [hT3]
        unfold rest2
        rw [if_neg (by omega)]
        rfl
      · have := hk5.size
        have := hk6.size
        omega
    · refine pl_no rfl rfl rfl rfl rfl rfl (by first | (simp only [cmpP]; omega) | (simp [cmpP]; done) | (simp [cmpP]; omega)) ?_
      (repeat (first | refine pl_pure hT rfl rfl rfl ?_ | refine pl_not rfl rfl ?_ | refine pl_nil ?_ | refine rn_inBlock ?_ | refine rn_skip ?_ | refine rn_true rfl ?_ | refine rn_false rfl ?_ | refine rn_exit rfl ?_))
      have hT2 : TOT = rest2 ts fin vs one kk 0 i1 := by
        rw [hT1]
        unfold rest1
        rw [if_neg hk1']
        rfl
      by_cases h23 : kk = 2 ∨ kk = 3
      · have hT3 : TOT = bnd (varP ts fin vs i1) fun q => rest3 ts fin one kk 0 q.1 q.2 := by
          rw [hT2]
          unfold rest2
          rw [if_pos h23]
        have key : ∀ (r : Value) (w5 : World), (∃ a, varP ts fin vs i1 = .ok a ∧ r = .int .i64 (a.1 : Nat) ∧ Rd w0 lv ts fin b vv vs w5 a.2 ∧ Keep [b] w4 w5) → ∃ v j : Nat, r = .int .i64 (v : Nat) ∧ TOT = rest3 ts fin one kk 0 v j ∧ Rd w0 lv ts fin b vv vs w5 j ∧ Keep [b] w4 w5 := by
          rintro r w5 ⟨⟨v, j⟩, hX, hr, h5, hk5⟩
          exact ⟨v, j, hr, by rw [hT3, hX]; rfl, h5, hk5⟩
        rcases h23 with h2' | h3'
        · refine rn_seq ?_
          refine rn_seq ?_
          refine rn_plain ?_
          refine pl_yes rfl rfl rfl rfl rfl (by first | (simp only [cmpP]; omega) | (simp [cmpP]; done) | (simp [cmpP]; omega)) ?_
          (repeat (first | refine pl_pure hT rfl rfl rfl ?_ | refine pl_not rfl rfl ?_ | refine pl_nil ?_ | refine rn_inBlock ?_ | refine rn_skip ?_ | refine rn_true rfl ?_ | refine rn_false rfl ?_ | refine rn_exit rfl ?_))
          refine rn_plain ?_
          (repeat (first | refine pl_pure hT rfl rfl rfl ?_ | refine pl_not rfl rfl ?_ | refine pl_nil ?_ | refine rn_inBlock ?_ | refine rn_skip ?_ | refine rn_true rfl ?_ | refine rn_false rfl ?_ | refine rn_exit rfl ?_))
          refine pl_opE Tryz.func98 rfl rfl (opE_call (fst := []) (cap := []) rfl rfl rfl rfl (by decide +kernel) (End.mono (variable_end h4 hvl) ?_ ?_))
          rotate_left
          · rintro v w5 ⟨e, hX, r⟩
            exact ⟨e, by rw [hT3, hX]; rfl, r⟩
          intro r w5 hh
          obtain ⟨v, j, rfl, hT4, h5, hk5⟩ := key r w5 hh
          have hz5 := hk5.blk hz4 (by simp; omega)
          have hy5 := hk5.blk hy4 (by simp; omega)
          (repeat (first | refine pl_pure hT rfl rfl rfl ?_ | refine pl_not rfl rfl ?_ | refine pl_nil ?_ | refine rn_inBlock ?_ | refine rn_skip ?_ | refine rn_true rfl ?_ | refine rn_false rfl ?_ | refine rn_exit rfl ?_))
          refine pl_op rfl rfl (opTo_storeN [.int .i64 ((v : Nat) : Int)] rfl rfl rfl rfl size_int hz5 (by simp [xC]) (by simp; rfl) ?_)
          intro w6 hs6 hk6 hz6
          have hsp : splice (xC (kk : Nat) 0 0 (.slice none 0 0)) 1 [.int .i64 ((v : Nat) : Int)] = xC (kk : Nat) (v : Nat) 0 (.slice none 0 0) := rfl
          rw [hsp] at hz6
          (repeat (first | refine pl_pure hT rfl rfl rfl ?_ | refine pl_not rfl rfl ?_ | refine pl_nil ?_ | refine rn_inBlock ?_ | refine rn_skip ?_ | refine rn_true rfl ?_ | refine rn_false rfl ?_ | refine rn_exit rfl ?_))
          refine fin1 _ _ ⟨0, v, j, hT4, h5.put hz5 hw0B hk6 (by decide), hz6, hk6.blk hy5 (by simp; omega), (hk04.tr hk5).trB hk6 (by omega), ?_, rfl, rfl, rfl, rfl, trivial⟩
          have := hk5.size
          have := hk6.size
          omega
        · refine rn_seq ?_
          refine rn_seq ?_
          refine rn_plain ?_
          refine pl_no rfl rfl rfl rfl rfl rfl (by first | (simp only [cmpP]; omega) | (simp [cmpP]; done) | (simp [cmpP]; omega)) ?_
          (repeat (first | refine pl_pure hT rfl rfl rfl ?_ | refine pl_not rfl rfl ?_ | refine pl_nil ?_ | refine rn_inBlock ?_ | refine rn_skip ?_ | refine rn_true rfl ?_ | refine rn_false rfl ?_ | refine rn_exit rfl ?_))
          refine rn_plain ?_
          refine pl_yes rfl rfl rfl rfl rfl (by first | (simp only [cmpP]; omega) | (simp [cmpP]; done) | (simp [cmpP]; omega)) ?_
          (repeat (first | refine pl_pure hT rfl rfl rfl ?_ | refine pl_not rfl rfl ?_ | refine pl_nil ?_ | refine rn_inBlock ?_ | refine rn_skip ?_ | refine rn_true rfl ?_ | refine rn_false rfl ?_ | refine rn_exit rfl ?_))
          refine rn_plain ?_
          (repeat (first | refine pl_pure hT rfl rfl rfl ?_ | refine pl_not rfl rfl ?_ | refine pl_nil ?_ | refine rn_inBlock ?_ | refine rn_skip ?_ | refine rn_true rfl ?_ | refine rn_false rfl ?_ | refine rn_exit rfl ?_))
          refine pl_opE Tryz.func98 rfl rfl (opE_call (fst := []) (cap := []) rfl rfl rfl rfl (by decide +kernel) (End.mono (variable_end h4 hvl) ?_ ?_))
          rotate_left
          · rintro v w5 ⟨e, hX, r⟩
            exact ⟨e, by rw [hT3, hX]; rfl, r⟩
          intro r w5 hh
          obtain ⟨v, j, rfl, hT4, h5, hk5⟩ := key r w5 hh
          have hz5 := hk5.blk hz4 (by simp; omega)
          have hy5 := hk5.blk hy4 (by simp; omega)
          (repeat (first | refine pl_pure hT rfl rfl rfl ?_ | refine pl_not rfl rfl ?_ | refine pl_nil ?_ | refine rn_inBlock ?_ | refine rn_skip ?_ | refine rn_true rfl ?_ | refine rn_false rfl ?_ | refine rn_exit rfl ?_))
          refine pl_op rfl rfl (opTo_storeN [.int .i64 ((v : Nat) : Int)] rfl rfl rfl rfl size_int hz5 (by simp [xC]) (by simp; rfl) ?_)
          intro w6 hs6 hk6 hz6
          have hsp : splice (xC (kk : Nat) 0 0 (.slice none 0 0)) 1 [.int .i64 ((v : Nat) : Int)] = xC (kk : Nat) (v : Nat) 0 (.slice none 0 0) := rfl
          rw [hsp] at hz6
          (repeat (first | refine pl_pure hT rfl rfl rfl ?_ | refine pl_not rfl rfl ?_ | refine pl_nil ?_ | refine rn_inBlock ?_ | refine rn_skip ?_ | refine rn_true rfl ?_ | refine rn_false rfl ?_ | refine rn_exit rfl ?_))
          refine fin1 _ _ ⟨0, v, j, hT4, h5.put hz5 hw0B hk6 (by decide), hz6, hk6.blk hy5 (by simp; omega), (hk04.tr hk5).trB hk6 (by omega), ?_, rfl, rfl, rfl, rfl, trivial⟩
          have := hk5.size
          have := hk6.size
          omega
      · refine rn_seq ?_
        refine rn_seq ?_
        refine rn_plain ?_
        refine pl_no rfl rfl rfl rfl rfl rfl (by first | (simp only [cmpP]; omega) | (simp [cmpP]; done) | (simp [cmpP]; omega)) ?_
        (repeat (first | refine pl_pure hT rfl rfl rfl ?_ | refine pl_not rfl rfl ?_ | refine pl_nil ?_ | refine rn_inBlock ?_ | refine rn_skip ?_ | refine rn_true rfl ?_ | refine rn_false rfl ?_ | refine rn_exit rfl ?_))
        refine rn_plain ?_
        refine pl_no rfl rfl rfl rfl rfl rfl (by first | (simp only [cmpP]; omega) | (simp [cmpP]; done) | (simp [cmpP]; omega)) ?_
        (repeat (first | refine pl_pure hT rfl rfl rfl ?_ | refine pl_not rfl rfl ?_ | refine pl_nil ?_ | refine rn_inBlock ?_ | refine rn_skip ?_ | refine rn_true rfl ?_ | refine rn_false rfl ?_ | refine rn_exit rfl ?_))
        refine fin1 _ _ ⟨0, 0, i1, ?_, h4, hz4, hy4, hk04, by omega, rfl, rfl, rfl, rfl, trivial⟩
        rw [hT2]
        unfold rest2
        rw [if_neg h23]
        rfl
  rintro σ' w6 ⟨n, v, i3, hT3, h6, hz6, hy6, hk06, hB6w, hsub⟩
  refine rn_sub hsub ?_
  obtain ⟨parts, hparts⟩ : ∃ parts, parts = (partsOf ((kk : Nat) : Int)).toNat := ⟨_, rfl⟩
  have hpr := partsOf_range kk hkk1 hkk8
  have hp2 : parts ≤ 2 := by omega
  have hpe : partsOf ((kk : Nat) : Int) = (parts : Nat) := by omega
  refine rn_seq ?_
  refine rn_seq ?_
  refine rn_plain ?_
  (repeat (first | refine pl_pure hT rfl rfl rfl ?_ | refine pl_not rfl rfl ?_ | refine pl_nil ?_ | refine rn_inBlock ?_ | refine rn_skip ?_ | refine rn_true rfl ?_ | refine rn_false rfl ?_ | refine rn_exit rfl ?_))
  refine pl_val _ rfl rfl (val_load1 hT rfl rfl rfl (hz6.cell rfl)) ?_
  refine pl_op rfl rfl (opTo_call (fst := []) (cap := []) rfl rfl rfl rfl (by decide +kernel) ((parts_ret ((kk : Nat) : Int) w6).mono ?_))
  rintro r w6' ⟨rfl, rfl⟩
  rw [hpe]
  (repeat (first | refine pl_pure hT rfl rfl rfl ?_ | refine pl_not rfl rfl ?_ | refine pl_nil ?_ | refine rn_inBlock ?_ | refine rn_skip ?_ | refine rn_true rfl ?_ | refine rn_false rfl ?_ | refine rn_exit rfl ?_))
  refine rn_block ?_
  refine rn_ind (fun m σ w' => ∃ (k j : Nat) (l : List ET) (sl : Value), k ≤ parts ∧ m = parts - k ∧ sl.oneCell' = true ∧ σ = [(0, .pointer (some ⟨b, 0, none⟩)), (1, .int .i64 (deep : Nat)), (4, .pointer (some ⟨b4, 0, none⟩)), (5, .pointer (some ⟨b5, 0, none⟩)), (26, .int .i64 (parts : Nat)), (27, .int .i64 (k : Nat))] ∧
    TOT = bnd (manyP one (parts - k) j) (fun (r, j) => rest4 ts fin kk n v (l ++ r) j) ∧ l.length = k ∧ RowE w' B sl l ∧ Rd w0 lv ts fin b vv vs w' j ∧
    Blk w' b5 (xC (kk : Nat) (v : Nat) n sl) 41 ∧ Blk w' b4 [.int .i64 0, .int .i64 0, .int .i64 0, .slice none 0 0] 41 ∧ Keep [b] w w' ∧ B ≤ w'.heap.size) parts _ ?_
    ⟨0, i3, [], .slice none 0 0, by omega, by omega, rfl, rfl, ?_, rfl, RowE.nil _ _, h6, hz6, hy6, hk06, hB6w⟩ ?_
  · exact ⟨rfl, rfl, rfl, rfl, rfl, rfl, trivial⟩
  · rw [hT3, Nat.sub_zero, hparts]
    rfl
  rintro m σ w7 ih2 ⟨k, j, l, sl, hkp, rfl, hsl, rfl, hT7, hlk, hrow, h7, hz7, hy7, hk07, hB7w⟩
  (repeat (first | refine pl_pure hT rfl rfl rfl ?_ | refine pl_nil ?_ | refine rn_seq ?_ | refine rn_plain ?_ | refine rn_block ?_ | refine rn_inBlock ?_ | refine rn_skip ?_ | refine rn_true rfl ?_ | refine rn_false rfl ?_ | refine rn_exit rfl ?_ | refine pl_not rfl rfl ?_))
  by_cases hltp : k < parts
  · refine pl_yes rfl rfl rfl rfl rfl (by first | (simp only [cmpP]; omega) | (simp [cmpP]; done) | (simp [cmpP]; omega)) ?_
    (repeat (first | refine pl_pure hT rfl rfl rfl ?_ | refine pl_nil ?_ | refine rn_seq ?_ | refine rn_plain ?_ | refine rn_block ?_ | refine rn_inBlock ?_ | refine rn_skip ?_ | refine rn_true rfl ?_ | refine rn_false rfl ?_ | refine rn_exit rfl ?_ | refine pl_not rfl rfl ?_))
    have hkd : Keep [] w7 w7.drew := (Keep.refl _ _).drew
    refine rn_draw (fun w' => True ∧ Blk w' b5 (xC (kk : Nat) (v : Nat) n sl) 41) [9] hMix ?_
    have hz9 := hkd.blk hz7 (by simp)
    have hS : True ∧ Blk w7.drew b5 (xC (kk : Nat) (v : Nat) n sl) 41 := ⟨trivial, hz9⟩
    have hstep : parts - k = (parts - (k + 1)) + 1 := by omega
    have hT8 : TOT = bnd (exprP ts fin vs (f - 1) j) fun q => bnd (manyP one (parts - (k + 1)) q.2) (fun (r, j) => rest4 ts fin kk n v ((l ++ [q.1]) ++ r) j) := by
      rw [hT7, hstep, manyP, hone]
      cases exprP ts fin vs (f - 1) j with
      | error e => rfl
      | ok q =>
        obtain ⟨t, j'⟩ := q
        show bnd (bnd (manyP (exprP ts fin vs (f - 1)) (parts - (k + 1)) j') _) _ = bnd (manyP (exprP ts fin vs (f - 1)) (parts - (k + 1)) j') _
        cases manyP (exprP ts fin vs (f - 1)) (parts - (k + 1)) j' with
        | error e => rfl
        | ok q =>
          obtain ⟨r', k'⟩ := q
          show rest4 ts fin kk n v (l ++ t :: r') k' = rest4 ts fin kk n v (l ++ [t] ++ r') k'
          rw [List.append_assoc]
          rfl
    try (first | refine dr_pure 0 hT rfl (by decide +kernel) rfl rfl rfl ?_ | refine dr_not 0 rfl (by decide +kernel) rfl rfl ?_ | refine dr_val 0 _ rfl (by decide +kernel) rfl rfl (fun w9 hS9 => val_load1 hT rfl rfl rfl (Blk.cell hS9.2 (by rfl))) hS ?_ | refine dr_yes 0 rfl (by decide +kernel) rfl rfl rfl rfl rfl (by first | (simp only [cmpP]; omega) | (simp [cmpP]; done) | (simp [cmpP]; omega)) ?_ | refine dr_no 0 rfl (by decide +kernel) rfl rfl rfl rfl rfl rfl (by first | (simp only [cmpP]; omega) | (simp [cmpP]; done) | (simp [cmpP]; omega)) ?_)
    try (first | refine dr_pure 1 hT rfl (by decide +kernel) rfl rfl rfl ?_ | refine dr_not 1 rfl (by decide +kernel) rfl rfl ?_ | refine dr_val 1 _ rfl (by decide +kernel) rfl rfl (fun w9 hS9 => val_load1 hT rfl rfl rfl (Blk.cell hS9.2 (by rfl))) hS ?_ | refine dr_yes 1 rfl (by decide +kernel) rfl rfl rfl rfl rfl (by first | (simp only [cmpP]; omega) | (simp [cmpP]; done) | (simp [cmpP]; omega)) ?_ | refine dr_no 1 rfl (by decide +kernel) rfl rfl rfl rfl rfl rfl (by first | (simp only [cmpP]; omega) | (simp [cmpP]; done) | (simp [cmpP]; omega)) ?_)
    try (first | refine dr_pure 2 hT rfl (by decide +kernel) rfl rfl rfl ?_ | refine dr_not 2 rfl (by decide +kernel) rfl rfl ?_ | refine dr_val 2 _ rfl (by decide +kernel) rfl rfl (fun w9 hS9 => val_load1 hT rfl rfl rfl (Blk.cell hS9.2 (by rfl))) hS ?_ | refine dr_yes 2 rfl (by decide +kernel) rfl rfl rfl rfl rfl (by first | (simp only [cmpP]; omega) | (simp [cmpP]; done) | (simp [cmpP]; omega)) ?_ | refine dr_no 2 rfl (by decide +kernel) rfl rfl rfl rfl rfl rfl (by first | (simp only [cmpP]; omega) | (simp [cmpP]; done) | (simp [cmpP]; omega)) ?_)
    try (first | refine dr_pure 3 hT rfl (by decide +kernel) rfl rfl rfl ?_ | refine dr_not 3 rfl (by decide +kernel) rfl rfl ?_ | refine dr_val 3 _ rfl (by decide +kernel) rfl rfl (fun w9 hS9 => val_load1 hT rfl rfl rfl (Blk.cell hS9.2 (by rfl))) hS ?_ | refine dr_yes 3 rfl (by decide +kernel) rfl rfl rfl rfl rfl (by first | (simp only [cmpP]; omega) | (simp [cmpP]; done) | (simp [cmpP]; omega)) ?_ | refine dr_no 3 rfl (by decide +kernel) rfl rfl rfl rfl rfl rfl (by first | (simp only [cmpP]; omega) | (simp [cmpP]; done) | (simp [cmpP]; omega)) ?_)
    refine dr_num 4 (((deep + 1 : Nat) : Int)) rfl (by decide +kernel) rfl rfl rfl rfl rfl (by simp only [ariP]; omega) ?_
    have h7d := h7.keep0 hkd
    refine dr_opE 5 Tryz.func98 rfl (by decide +kernel) rfl rfl (opE_call (fst := []) (cap := []) rfl rfl rfl rfl (by decide +kernel) (End.mono (ih (f - 1) (by omega) (deep + 1) j (by omega) h7d) ?_ ?_))
    rotate_left
    · rintro v w5 ⟨e, hX, r⟩
      exact ⟨e, by rw [hT8, hX]; rfl, r⟩
    rintro r w10 ⟨⟨t, j'⟩, hX, ⟨cs, F', rfl, he2, he3⟩, h10, hk10⟩
    rw [hX] at hT8
    have hT9 : TOT = bnd (manyP one (parts - (k + 1)) j') (fun (r, j) => rest4 ts fin kk n v ((l ++ [t]) ++ r) j) := hT8
    have hz10 := hk10.blk hz9 (by simp; omega)
    have hy10 := hk10.blk (hkd.blk hy7 (by simp)) (by simp; omega)
    have hrow10 := (hrow.keep hkd (by simp)).keep hk10 (by simp; omega)
    have hk010 := (hk07.tr0 hkd).tr hk10
    refine ⟨fun _ => ⟨trivial, hz10⟩, ?_⟩
    have hcs1 := he2.one
    obtain ⟨c0, c1, c2, c3, rfl⟩ := list4 he2.length
    refine dr_op 6 rfl (by decide +kernel) rfl rfl (opTo_sliceN _ _ rfl rfl (slice_one c0 c1 c2 c3) ?_)
    intro w11 g11 hg11 hs11 hk11 hb11
    have hz11 := hk11.blk hz10 (by simp)
    have hy11 := hk11.blk hy10 (by simp)
    have h11 := h10.keep0 hk11
    have hrow11 := hrow10.keep hk11 (by simp)
    have hk011 := hk010.tr0 hk11
    refine ⟨fun _ => ⟨trivial, hz11⟩, ?_⟩
    obtain ⟨xs, hown11⟩ := hrow11.own
    have hB11 : B ≤ w11.heap.size := by have := hk10.size; have := hk11.size; have : w7.drew.heap.size = w7.heap.size := rfl; omega
    refine dr_op 7 rfl (by decide +kernel) rfl rfl (opTo_app B 41 4 48 xs [c0, c1, c2, c3] rfl rfl rfl (by decide +kernel) hown11 (hb11.range (by rfl)) rfl hcs1 (by decide) (by simp only [maxLen]; omega) (by omega) hB11 ?_)
    intro g12 cap12 w12 hown12 hor12
    have hk012 : Keep [b] w w12 := by
      rcases hor12 with ⟨h1, _, h2⟩ | ⟨_, h2, _⟩
      · exact hk011.trB h2 (by have := (hown11.lt g12 h1).1; omega)
      · exact hk011.tr0 h2
    have hne : ∀ c, c < B → sl.ownBlock ≠ some c := fun c hc e => by have := (hown11.lt c e).1; omega
    have hz12 := app_blk hz11 (fun k hk e => hne b5 hB5 (e ▸ hk)) hor12
    have hy12 := app_blk hy11 (fun k hk e => hne b4 hB4 (e ▸ hk)) hor12
    have h12 := h11.app hown11 (by omega) (by decide) hor12
    refine ⟨fun _ => ⟨trivial, hz12⟩, ?_⟩
    refine dr_pure 8 hT rfl (by decide +kernel) rfl rfl rfl ?_
    refine dr_op 9 rfl (by decide +kernel) rfl rfl (opTo_storeN [.slice (some ⟨g12, 0, none⟩) (l.length + 1) cap12] rfl rfl rfl rfl size_exprs hz12 (by simp [xC]) (by simp; rfl) ?_)
    intro w13 hs13 hk13 hz13
    have hsp : splice (xC (kk : Nat) (v : Nat) n sl) 3 [.slice (some ⟨g12, 0, none⟩) (l.length + 1) cap12] = xC (kk : Nat) (v : Nat) n (.slice (some ⟨g12, 0, none⟩) (l.length + 1) cap12) := rfl
    rw [hsp] at hz13
    refine ⟨fun h => absurd (by simp) h, ?_⟩
    refine dr_done (by decide +kernel) ?_
    have hw12 : w11.heap.size ≤ w12.heap.size := by
      rcases hor12 with ⟨_, _, h2⟩ | ⟨_, h2, _⟩
      · exact h2.size
      · exact h2.size
    have hy13 := hk13.blk hy12 (by simp; omega)
    have hk013 : Keep [b] w w13 := hk012.trB hk13 (by omega)
    have hB13 : B ≤ w13.heap.size := by have := hk13.size; omega
    have h13 := h12.put hz12 hw0B hk13 (by decide)
    (repeat (first | refine pl_pure hT rfl rfl rfl ?_ | refine pl_nil ?_ | refine rn_seq ?_ | refine rn_plain ?_ | refine rn_block ?_ | refine rn_inBlock ?_ | refine rn_skip ?_ | refine rn_true rfl ?_ | refine rn_false rfl ?_ | refine rn_exit rfl ?_ | refine pl_not rfl rfl ?_))
    refine pl_num (((k + 1 : Nat) : Int)) rfl rfl rfl rfl rfl (by simp only [ariP]; omega) ?_
    (repeat (first | refine pl_pure hT rfl rfl rfl ?_ | refine pl_nil ?_ | refine rn_seq ?_ | refine rn_plain ?_ | refine rn_block ?_ | refine rn_inBlock ?_ | refine rn_skip ?_ | refine rn_true rfl ?_ | refine rn_false rfl ?_ | refine rn_exit rfl ?_ | refine pl_not rfl rfl ?_))
    have hrow12 : RowE w12 B (.slice (some ⟨g12, 0, none⟩) (l.length + 1) cap12) (l ++ [t]) := by
      refine hrow11.app (he2.keep hk11 (fun c hc' => ⟨(he3 c hc').2, by simp⟩)) (fun c hc' => ?_) (fun ys hys => ?_) hor12
      · have h3 := he3 c hc'
        have hsz : w7.drew.heap.size = w7.heap.size := rfl
        refine ⟨by omega, by have := hk11.size; omega, fun e' => ?_⟩
        have := (hrow.keep hkd (by simp)).own
        obtain ⟨zs, hz⟩ := this
        have := (hz.lt c e').2
        omega
      · have : ys = xs := hys.eq hown11
        subst this
        exact hown12
    have hrow13 := hrow12.keep hk13 (by simp; omega)
    refine rn_sub ?_ (ih2 _ _ _ ?_ ⟨k + 1, j', l ++ [t], .slice (some ⟨g12, 0, none⟩) (l.length + 1) cap12, by omega, rfl, rfl, rfl, hT9, by simp [hlk], hrow13, h13, hz13, hy13, hk013, hB13⟩)
    · exact ⟨rfl, rfl, rfl, rfl, rfl, rfl, trivial⟩
    · omega
  · refine pl_no rfl rfl rfl rfl rfl rfl (by first | (simp only [cmpP]; omega) | (simp [cmpP]; done) | (simp [cmpP]; omega)) ?_
    (repeat (first | refine pl_pure hT rfl rfl rfl ?_ | refine pl_nil ?_ | refine rn_seq ?_ | refine rn_plain ?_ | refine rn_block ?_ | refine rn_inBlock ?_ | refine rn_skip ?_ | refine rn_true rfl ?_ | refine rn_false rfl ?_ | refine rn_exit rfl ?_ | refine pl_not rfl rfl ?_))
    have hT8 : TOT = bnd (mustP ts fin [41] j) fun i5 => .ok (.mk (kk : Nat) (v : Nat) n l, i5) := by
      rw [hT7, show parts - k = 0 by omega]
      show rest4 ts fin kk n v (l ++ []) j = _
      rw [List.append_nil]
      rfl
    refine pl_opE Tryz.func98 rfl rfl (opE_call (fst := []) (cap := []) rfl rfl rfl rfl (by decide +kernel) (End.mono (text_end hct h7 [41] (by decide)) ?_ ?_))
    rotate_left
    · rintro v w5 ⟨e, hX, r⟩
      exact ⟨e, by rw [hT8, hX]; rfl, r⟩
    rintro r w8 ⟨j', hX, h8, hk8⟩
    rw [hX] at hT8
    have hz8 := hk8.blk hz7 (by simp; omega)
    have hy8 := hk8.blk hy7 (by simp; omega)
    (repeat (first | refine pl_pure hT rfl rfl rfl ?_ | refine pl_nil ?_ | refine rn_seq ?_ | refine rn_plain ?_ | refine rn_block ?_ | refine rn_inBlock ?_ | refine rn_skip ?_ | refine rn_true rfl ?_ | refine rn_false rfl ?_ | refine rn_exit rfl ?_ | refine pl_not rfl rfl ?_))
    refine pl_val _ rfl rfl (val_load (xC (kk : Nat) (v : Nat) n sl) hT rfl rfl rfl (hz8.range (by rfl))) ?_
    refine pl_op rfl rfl (opTo_storeN (xC (kk : Nat) (v : Nat) n sl) rfl rfl rfl rfl size_expr hy8 (by simp [xC]) (xC_one hsl) ?_)
    intro w9 hs9 hk9 hy9
    rw [splice_whole (by rfl)] at hy9
    (repeat (first | refine pl_pure hT rfl rfl rfl ?_ | refine pl_nil ?_ | refine rn_seq ?_ | refine rn_plain ?_ | refine rn_block ?_ | refine rn_inBlock ?_ | refine rn_skip ?_ | refine rn_true rfl ?_ | refine rn_false rfl ?_ | refine rn_exit rfl ?_ | refine pl_not rfl rfl ?_))
    have hw0B4 : w0.heap.size ≤ b4 := by have := h.kp.size; omega
    have h9 := h8.put hy8 hw0B4 hk9 (by decide)
    have hk09 : Keep [b] w w9 := (hk07.tr hk8).trB hk9 (by omega)
    obtain ⟨F, hF1, hF2⟩ := ((hrow.keep hk8 (by simp; omega)).keep hk9 (by simp; omega)).exprs
    exact rn_ret Tryz.func98 (.inr (.inr (.inl ⟨_, _, _, rfl, rfl, blk_loadVar hT hy9 rfl⟩))) ⟨(.mk (kk : Nat) (v : Nat) n l, j'), hT8, ⟨xC (kk : Nat) (v : Nat) n sl, F, rfl, ExprV.of hF1, fun c hc' => by have := hF2 c hc'; omega⟩, h9, hk09⟩
end
end E
end Go.Proofs.YthbkcadiejfgaacGreatDoor

/- The landed reader: statements, lists of them. -/
namespace Go.Proofs.YthbkcadiejfgaacGreatDoor
set_option maxRecDepth 20000
set_option maxHeartbeats 4000000
namespace E
open Go.Proofs

section
variable {w0 w w' : World} {lv vv : Value} {ts : List Tok} {fin b i : Nat} {vs : List VarT}
/-- A statement, statements that were made since w. -/
def StR (w w' : World) (r : Value) (t : ST) : Prop := ∃ (cs : List Value) (F : Nat → Prop), r = .agg cs.toArray ∧ StmtV F w' cs t ∧ ∀ c, F c → w.heap.size ≤ c ∧ c < w'.heap.size
def LsR (w w' : World) (r : Value) (l : List ST) : Prop := (∃ a n c, r = .slice a n c ∧ n ≤ c) ∧ ∃ F : Nat → Prop, StmtsV F w' r l ∧ ∀ c, F c → w.heap.size ≤ c ∧ c < w'.heap.size
theorem LsR.keep {w'' : World} {r : Value} {l : List ST} {fp : List Nat} (h : LsR w w' r l) (hk : Keep fp w' w'') (hfp : ∀ c ∈ fp, c < w.heap.size) : LsR w w'' r l := by
  obtain ⟨h1, F, h2, h3⟩ := h
  exact ⟨h1, F, h2.keep hk (fun c hc => ⟨(h3 c hc).2, fun hm => by have := hfp c hm; have := (h3 c hc).1; omega⟩), fun c hc => ⟨(h3 c hc).1, Nat.lt_of_lt_of_le (h3 c hc).2 hk.size⟩⟩
theorem LsR.mono {w'' : World} {r : Value} {l : List ST} (h : LsR w w' r l) (hl : w''.heap.size ≤ w.heap.size) : LsR w'' w' r l := by
  obtain ⟨h1, F, h2, h3⟩ := h
  exact ⟨h1, F, h2, fun c hc => ⟨Nat.le_trans hl (h3 c hc).1, (h3 c hc).2⟩⟩

theorem stmts_end {deep g bx : Nat} {one : Nat → Except Flt (ST × Nat)} {stop : Nat → Bool} (hct : Ct ts) (hg : callable Tryz.prog g = true) (hone : ∀ i r, one i = .ok r → i < r.2 ∧ r.2 ≤ ts.length)
    (hst : ∀ (i : Nat) {w : World}, Rd w0 lv ts fin b vv vs w i → Goes 81 [.pointer (some ⟨b, 0, none⟩), .int .i64 (deep : Nat)] w0 w (one i) fun q r w' => StR w w' r q.1 ∧ Rd w0 lv ts fin b vv vs w' q.2 ∧ Keep [b] w w')
    (hov : ∀ (i : Nat) {w : World}, Rd w0 lv ts fin b vv vs w i → Blk w bx [.pointer (some ⟨b, 0, none⟩)] 76 → Ret Tryz.prog g [.pointer (some ⟨bx, 0, none⟩)] w fun r w' => r = .bool (stop i) ∧ w' = w)
    {i : Nat} {w : World} (h : Rd w0 lv ts fin b vv vs w i) (hx : Blk w bx [.pointer (some ⟨b, 0, none⟩)] 76) :
    Goes 63 [.pointer (some ⟨b, 0, none⟩), .int .i64 (deep : Nat), .func (.func g) #[] #[.pointer (some ⟨bx, 0, none⟩)]] w0 w (untilP stop one (ts.length + 1 - i) i) fun q r w' => LsR w w' r q.1 ∧ Rd w0 lv ts fin b vv vs w' q.2 ∧ Keep [b] w w' := by
  have hlen := hct.len
  have hbw := h.lt
  have hxw := hx.lt
  have hle0 := h.le
  refine end_of 18 Tryz.func63 rfl rfl (by simp) ?_
  (repeat (first | refine pl_pure hT rfl rfl rfl ?_ | refine pl_nil ?_ | refine rn_seq ?_ | refine rn_plain ?_ | refine rn_block ?_ | refine rn_inBlock ?_ | refine rn_skip ?_ | refine rn_true rfl ?_ | refine rn_false rfl ?_ | refine rn_exit rfl ?_ | refine pl_not rfl rfl ?_))
  obtain ⟨TOT, hTOT⟩ : ∃ TOT, TOT = untilP stop one (ts.length + 1 - i) i := ⟨_, rfl⟩
  rw [← hTOT]
  obtain ⟨B, hB⟩ : ∃ B, B = w.heap.size := ⟨_, rfl⟩
  have hw0B : w0.heap.size ≤ B := by have := h.kp.size; omega
  have hne : bx ≠ b := by
    obtain ⟨a0, c0, hb0, _⟩ := h.blk
    exact hx.ne hb0 (by decide)
  refine rn_ind (fun m σ w' => ∃ (j : Nat) (l : List ST) (sl : Value), m = ts.length + 1 - j ∧ σ = [(0, .pointer (some ⟨b, 0, none⟩)), (1, .int .i64 (deep : Nat)), (2, .func (.func g) #[] #[.pointer (some ⟨bx, 0, none⟩)]), (7, sl)] ∧
    TOT = bnd (untilP stop one (ts.length + 1 - j) j) (fun (r, k) => .ok (l ++ r, k)) ∧ l.length ≤ j ∧ RowS w' B sl l ∧ Rd w0 lv ts fin b vv vs w' j ∧ Blk w' bx [.pointer (some ⟨b, 0, none⟩)] 76 ∧ Keep [b] w w')
    _ _ ?_ ⟨i, [], .slice none 0 0, rfl, rfl, ?_, Nat.zero_le _, RowS.nil _ _, h, hx, Keep.refl _ _⟩ ?_
  · exact ⟨rfl, rfl, rfl, rfl, trivial⟩
  · rw [hTOT]
    cases untilP stop one (ts.length + 1 - i) i <;> rfl
  rintro m σ w2 ih ⟨j, l, sl, rfl, rfl, hT2, hlj, hrow, h2, hx2, hk2⟩
  have hjl := h2.le
  (repeat (first | refine pl_pure hT rfl rfl rfl ?_ | refine pl_nil ?_ | refine rn_seq ?_ | refine rn_plain ?_ | refine rn_block ?_ | refine rn_inBlock ?_ | refine rn_skip ?_ | refine rn_true rfl ?_ | refine rn_false rfl ?_ | refine rn_exit rfl ?_ | refine pl_not rfl rfl ?_))
  refine pl_op rfl rfl (opTo_call (fst := []) (cap := [.pointer (some ⟨bx, 0, none⟩)]) rfl rfl rfl rfl hg ((hov j h2 hx2).mono ?_))
  rintro r w3 ⟨rfl, rfl⟩
  have hu : untilP stop one (ts.length + 1 - j) j = if stop j then .ok ([], j) else bnd (one j) fun (t, k) => bnd (untilP stop one (ts.length - j) k) fun (r, k) => .ok (t :: r, k) := by
    have e : ts.length + 1 - j = (ts.length - j) + 1 := by omega
    rw [e]
    rfl
  obtain ⟨q, hq⟩ : ∃ q, q = stop j := ⟨_, rfl⟩
  rw [← hq] at hu ⊢
  cases q with
  | true =>
    rw [if_pos rfl] at hu
    (repeat (first | refine pl_pure hT rfl rfl rfl ?_ | refine pl_nil ?_ | refine rn_seq ?_ | refine rn_plain ?_ | refine rn_block ?_ | refine rn_inBlock ?_ | refine rn_skip ?_ | refine rn_true rfl ?_ | refine rn_false rfl ?_ | refine rn_exit rfl ?_ | refine pl_not rfl rfl ?_))
    refine rn_ret Tryz.func63 (.inl ⟨_, rfl, rfl⟩) ⟨(l, j), ?_, ⟨?_, ?_⟩, h2, hk2⟩
    · rw [hT2, hu]
      show Except.ok (l ++ [], j) = _
      rw [List.append_nil]
    · obtain ⟨xs, ho⟩ := hrow.own
      obtain ⟨a, cap, rfl⟩ := ho.form
      exact ⟨a, _, cap, rfl, own_cap ho⟩
    · obtain ⟨F, h1, h3⟩ := hrow.stmts
      exact ⟨F, h1, fun c hc => by have := h3 c hc; omega⟩
  | false =>
    rw [if_neg (by decide)] at hu
    have hT3 : TOT = bnd (one j) fun q => bnd (untilP stop one (ts.length + 1 - q.2) q.2) (fun (r, k) => .ok ((l ++ [q.1]) ++ r, k)) := by
      rw [hT2, hu]
      cases hc : one j with
      | error e => rfl
      | ok q =>
        obtain ⟨t, j'⟩ := q
        have h1 := hone _ _ hc
        dsimp only at h1
        show bnd (bnd (untilP stop one (ts.length - j) j') _) _ = bnd (untilP stop one (ts.length + 1 - j') j') _
        rw [untilP_fuel hone (ts.length - j) (ts.length + 1 - j') j' h1.2 (by omega) (by omega)]
        cases untilP stop one (ts.length + 1 - j') j' with
        | error e => rfl
        | ok q =>
          obtain ⟨r', k'⟩ := q
          show Except.ok (l ++ t :: r', k') = Except.ok (l ++ [t] ++ r', k')
          rw [List.append_assoc]
          rfl
    (repeat (first | refine pl_pure hT rfl rfl rfl ?_ | refine pl_nil ?_ | refine rn_seq ?_ | refine rn_plain ?_ | refine rn_block ?_ | refine rn_inBlock ?_ | refine rn_skip ?_ | refine rn_true rfl ?_ | refine rn_false rfl ?_ | refine rn_exit rfl ?_ | refine pl_not rfl rfl ?_))
    refine pl_opE Tryz.func63 rfl rfl (opE_call (fst := []) (cap := []) rfl rfl rfl rfl (by decide +kernel) (End.mono (hst j h2) ?_ ?_))
    rotate_left
    · rintro v w5 ⟨e, hX, r⟩
      exact ⟨e, by rw [hT3, hX]; rfl, r⟩
    rintro r w5 ⟨⟨t, j'⟩, hX, ⟨cs, F', rfl, he2, he3⟩, h5, hk5⟩
    have hj' := hone _ _ hX
    dsimp only at hj' he2
    rw [hX] at hT3
    have hT4 : TOT = bnd (untilP stop one (ts.length + 1 - j') j') (fun (r, k) => .ok ((l ++ [t]) ++ r, k)) := hT3
    have hrow5 := hrow.keep hk5 (by simp; omega)
    have hk05 := hk2.tr hk5
    have hx5 := hk5.blk hx2 (by simp; exact hne)
    have hcs1 := he2.one
    obtain ⟨c0, c1, c2, c3, c4, c5, c6, c7, c8, c9, c10, c11, rfl⟩ := list12 he2.length
    refine pl_op rfl rfl (opTo_sliceN _ _ rfl rfl (slice_stmt c0 c1 c2 c3 c4 c5 c6 c7 c8 c9 c10 c11) ?_)
    intro w6 g6 hg6 hs6 hk6 hb6
    have h6 := h5.keep0 hk6
    have hx6 := hk6.blk hx5 (by simp)
    have hrow6 := hrow5.keep hk6 (by simp)
    have hk06 := hk05.tr0 hk6
    obtain ⟨xs, hown6⟩ := hrow6.own
    have hB6 : B ≤ w6.heap.size := by have := hk06.size; omega
    refine pl_op rfl rfl (opTo_app B 43 12 160 xs [c0, c1, c2, c3, c4, c5, c6, c7, c8, c9, c10, c11] rfl rfl rfl (by decide +kernel) hown6 (hb6.range (by rfl)) rfl hcs1 (by decide) (by simp only [maxLen]; omega) (by omega) hB6 ?_)
    intro g7 cap7 w7 hown7 hor7
    have hk07 : Keep [b] w w7 := by
      rcases hor7 with ⟨h1, _, h2⟩ | ⟨_, h2, _⟩
      · exact hk06.trB h2 (by have := (hown6.lt g7 h1).1; omega)
      · exact hk06.tr0 h2
    have h7 := h6.app hown6 hw0B (by decide) hor7
    have hx7 := app_blk hx6 (fun k hk e => by have := (hown6.lt k hk).1; omega) hor7
    have hrow7 : RowS w7 B (.slice (some ⟨g7, 0, none⟩) (l.length + 1) cap7) (l ++ [t]) := by
      refine hrow6.app (he2.keep hk6 (fun c hc' => ⟨(he3 c hc').2, by simp⟩)) (fun c hc' => ?_) (fun ys hys => ?_) hor7
      · have h3 := he3 c hc'
        have := hk2.size
        refine ⟨by omega, by have := hk6.size; omega, fun e' => ?_⟩
        obtain ⟨zs, hz⟩ := hrow.own
        have := (hz.lt c e').2
        omega
      · have : ys = xs := hys.eq hown6
        subst this
        exact hown7
    (repeat (first | refine pl_pure hT rfl rfl rfl ?_ | refine pl_nil ?_ | refine rn_seq ?_ | refine rn_plain ?_ | refine rn_block ?_ | refine rn_inBlock ?_ | refine rn_skip ?_ | refine rn_true rfl ?_ | refine rn_false rfl ?_ | refine rn_exit rfl ?_ | refine pl_not rfl rfl ?_))
    refine rn_sub ?_ (ih _ _ _ ?_ ⟨j', l ++ [t], .slice (some ⟨g7, 0, none⟩) (l.length + 1) cap7, rfl, rfl, hT4, by simp; omega, hrow7, h7, hx7, hk07⟩)
    · exact ⟨rfl, rfl, rfl, rfl, trivial⟩
    · omega

theorem atBracket_ret (hct : Ct ts) {bx : Nat} (h : Rd w0 lv ts fin b vv vs w i) (hx : Blk w bx [.pointer (some ⟨b, 0, none⟩)] 76) : Ret Tryz.prog 114 [.pointer (some ⟨bx, 0, none⟩)] w fun r w' => r = .bool (isT ts i [41]) ∧ w' = w := by
  refine ret_of 4 Tryz.func114 rfl rfl (by simp) ?_
  (repeat (first | refine pl_pure hT rfl rfl rfl ?_ | refine pl_nil ?_ | refine rn_seq ?_ | refine rn_plain ?_ | refine rn_block ?_ | refine rn_inBlock ?_ | refine rn_skip ?_ | refine rn_true rfl ?_ | refine rn_false rfl ?_ | refine rn_exit rfl ?_ | refine pl_not rfl rfl ?_))
  refine pl_val _ rfl rfl (val_load1 hT rfl rfl rfl (hx.cell rfl)) ?_
  refine pl_op rfl rfl (opTo_call (fst := []) (cap := []) rfl rfl rfl rfl (by decide +kernel) ((stands_ret hct h [41] (by decide)).mono ?_))
  rintro r w2 ⟨rfl, rfl⟩
  (repeat (first | refine pl_pure hT rfl rfl rfl ?_ | refine pl_nil ?_ | refine rn_seq ?_ | refine rn_plain ?_ | refine rn_block ?_ | refine rn_inBlock ?_ | refine rn_skip ?_ | refine rn_true rfl ?_ | refine rn_false rfl ?_ | refine rn_exit rfl ?_ | refine pl_not rfl rfl ?_))
  exact rn_ret Tryz.func114 (.inl ⟨_, rfl, rfl⟩) ⟨rfl, rfl⟩
theorem atEnd_ret {bx : Nat} (h : Rd w0 lv ts fin b vv vs w i) (hx : Blk w bx [.pointer (some ⟨b, 0, none⟩)] 76) : Ret Tryz.prog 64 [.pointer (some ⟨bx, 0, none⟩)] w fun r w' => r = .bool (decide (ts.length ≤ i)) ∧ w' = w := by
  obtain ⟨a, c, hb, _⟩ := h.blk
  have hle := h.le
  refine ret_of 8 Tryz.func64 rfl rfl (by simp) ?_
  (repeat (first | refine pl_pure hT rfl rfl rfl ?_ | refine pl_nil ?_ | refine rn_seq ?_ | refine rn_plain ?_ | refine rn_block ?_ | refine rn_inBlock ?_ | refine rn_skip ?_ | refine rn_true rfl ?_ | refine rn_false rfl ?_ | refine rn_exit rfl ?_ | refine pl_not rfl rfl ?_))
  refine pl_val _ rfl rfl (val_load1 hT rfl rfl rfl (hx.cell rfl)) ?_
  (repeat (first | refine pl_pure hT rfl rfl rfl ?_ | refine pl_nil ?_ | refine rn_seq ?_ | refine rn_plain ?_ | refine rn_block ?_ | refine rn_inBlock ?_ | refine rn_skip ?_ | refine rn_true rfl ?_ | refine rn_false rfl ?_ | refine rn_exit rfl ?_ | refine pl_not rfl rfl ?_))
  refine pl_val _ rfl rfl (val_load1 hT rfl rfl rfl (hb.cell rfl)) ?_
  (repeat (first | refine pl_pure hT rfl rfl rfl ?_ | refine pl_nil ?_ | refine rn_seq ?_ | refine rn_plain ?_ | refine rn_block ?_ | refine rn_inBlock ?_ | refine rn_skip ?_ | refine rn_true rfl ?_ | refine rn_false rfl ?_ | refine rn_exit rfl ?_ | refine pl_not rfl rfl ?_))
  by_cases he : ts.length ≤ i
  · refine pl_yes rfl rfl rfl rfl rfl (by first | (simp only [cmpP]; omega) | (simp [cmpP]; done) | (simp [cmpP]; omega)) ?_
    (repeat (first | refine pl_pure hT rfl rfl rfl ?_ | refine pl_nil ?_ | refine rn_seq ?_ | refine rn_plain ?_ | refine rn_block ?_ | refine rn_inBlock ?_ | refine rn_skip ?_ | refine rn_true rfl ?_ | refine rn_false rfl ?_ | refine rn_exit rfl ?_ | refine pl_not rfl rfl ?_))
    exact rn_ret Tryz.func64 (.inl ⟨_, rfl, rfl⟩) ⟨by simp [he], rfl⟩
  · refine pl_no rfl rfl rfl rfl rfl rfl (by first | (simp only [cmpP]; omega) | (simp [cmpP]; done) | (simp [cmpP]; omega)) ?_
    (repeat (first | refine pl_pure hT rfl rfl rfl ?_ | refine pl_nil ?_ | refine rn_seq ?_ | refine rn_plain ?_ | refine rn_block ?_ | refine rn_inBlock ?_ | refine rn_skip ?_ | refine rn_true rfl ?_ | refine rn_false rfl ?_ | refine rn_exit rfl ?_ | refine pl_not rfl rfl ?_))
    exact rn_ret Tryz.func64 (.inl ⟨_, rfl, rfl⟩) ⟨by simp [he], rfl⟩

theorem list_end {deep : Nat} {one : Nat → Except Flt (ST × Nat)} (hct : Ct ts) (hone : ∀ i r, one i = .ok r → i < r.2 ∧ r.2 ≤ ts.length)
    (hst : ∀ (i : Nat) {w : World}, Rd w0 lv ts fin b vv vs w i → Goes 81 [.pointer (some ⟨b, 0, none⟩), .int .i64 (deep : Nat)] w0 w (one i) fun q r w' => StR w w' r q.1 ∧ Rd w0 lv ts fin b vv vs w' q.2 ∧ Keep [b] w w')
    (h : Rd w0 lv ts fin b vv vs w i) :
    Goes 99 [.pointer (some ⟨b, 0, none⟩), .int .i64 (deep : Nat)] w0 w (listP ts fin one i) fun q r w' => LsR w w' r q.1 ∧ Rd w0 lv ts fin b vv vs w' q.2 ∧ Keep [b] w w' := by
  have hbw := h.lt
  refine end_of 15 Tryz.func99 rfl rfl (by simp) ?_
  (repeat (first | refine pl_pure hT rfl rfl rfl ?_ | refine pl_nil ?_ | refine rn_seq ?_ | refine rn_plain ?_ | refine rn_block ?_ | refine rn_inBlock ?_ | refine rn_skip ?_ | refine rn_true rfl ?_ | refine rn_false rfl ?_ | refine rn_exit rfl ?_ | refine pl_not rfl rfl ?_))
  refine pl_op rfl rfl (opTo_boxN [.pointer (some ⟨b, 0, none⟩)] rfl rfl rfl ?_)
  intro w1 bx hbx hs1 hk1 hz1
  have h1 := h.keep0 hk1
  (repeat (first | refine pl_pure hT rfl rfl rfl ?_ | refine pl_nil ?_ | refine rn_seq ?_ | refine rn_plain ?_ | refine rn_block ?_ | refine rn_inBlock ?_ | refine rn_skip ?_ | refine rn_true rfl ?_ | refine rn_false rfl ?_ | refine rn_exit rfl ?_ | refine pl_not rfl rfl ?_))
  refine pl_val _ rfl rfl (val_load1 hT rfl rfl rfl (hz1.cell rfl)) ?_
  obtain ⟨TOT, hTOT⟩ : ∃ TOT, TOT = listP ts fin one i := ⟨_, rfl⟩
  rw [← hTOT]
  unfold listP at hTOT
  refine pl_opE Tryz.func99 rfl rfl (opE_call (fst := []) (cap := []) rfl rfl rfl rfl (by decide +kernel) (End.mono (text_end hct h1 [40] (by decide)) ?_ ?_))
  rotate_left
  · rintro v w5 ⟨e, hX, r⟩
    exact ⟨e, by rw [hTOT, hX]; rfl, r⟩
  rintro r w2 ⟨j, hX, h2, hk2⟩
  rw [hX] at hTOT
  have hT2 : TOT = bnd (untilP (fun j => isT ts j [41]) one (ts.length + 1 - j) j) fun (l, k) => bnd (mustP ts fin [41] k) fun m => .ok (l, m) := hTOT
  have hz2 := hk2.blk hz1 (by simp; omega)
  (repeat (first | refine pl_pure hT rfl rfl rfl ?_ | refine pl_nil ?_ | refine rn_seq ?_ | refine rn_plain ?_ | refine rn_block ?_ | refine rn_inBlock ?_ | refine rn_skip ?_ | refine rn_true rfl ?_ | refine rn_false rfl ?_ | refine rn_exit rfl ?_ | refine pl_not rfl rfl ?_))
  refine pl_val _ rfl rfl (val_load1 hT rfl rfl rfl (hz2.cell rfl)) ?_
  (repeat (first | refine pl_pure hT rfl rfl rfl ?_ | refine pl_nil ?_ | refine rn_seq ?_ | refine rn_plain ?_ | refine rn_block ?_ | refine rn_inBlock ?_ | refine rn_skip ?_ | refine rn_true rfl ?_ | refine rn_false rfl ?_ | refine rn_exit rfl ?_ | refine pl_not rfl rfl ?_))
  refine pl_opE Tryz.func99 rfl rfl (opE_call (fst := []) (cap := []) rfl rfl rfl rfl (by decide +kernel) (End.mono (stmts_end (stop := fun j => isT ts j [41]) (g := 114) (bx := bx) hct (by decide +kernel) hone hst (fun i w h hx => atBracket_ret hct h hx) h2 hz2) ?_ ?_))
  rotate_left
  · rintro v w5 ⟨e, hX, r⟩
    exact ⟨e, by rw [hT2, hX]; rfl, r⟩
  rintro r w3 ⟨⟨l, k⟩, hX, hL, h3, hk3⟩
  rw [hX] at hT2
  have hT3 : TOT = bnd (mustP ts fin [41] k) fun m => .ok (l, m) := hT2
  have hz3 := hk3.blk hz2 (by simp; omega)
  (repeat (first | refine pl_pure hT rfl rfl rfl ?_ | refine pl_nil ?_ | refine rn_seq ?_ | refine rn_plain ?_ | refine rn_block ?_ | refine rn_inBlock ?_ | refine rn_skip ?_ | refine rn_true rfl ?_ | refine rn_false rfl ?_ | refine rn_exit rfl ?_ | refine pl_not rfl rfl ?_))
  refine pl_val _ rfl rfl (val_load1 hT rfl rfl rfl (hz3.cell rfl)) ?_
  refine pl_opE Tryz.func99 rfl rfl (opE_call (fst := []) (cap := []) rfl rfl rfl rfl (by decide +kernel) (End.mono (text_end hct h3 [41] (by decide)) ?_ ?_))
  rotate_left
  · rintro v w5 ⟨e, hX, r⟩
    exact ⟨e, by rw [hT3, hX]; rfl, r⟩
  rintro r w4 ⟨m, hX, h4, hk4⟩
  rw [hX] at hT3
  (repeat (first | refine pl_pure hT rfl rfl rfl ?_ | refine pl_nil ?_ | refine rn_seq ?_ | refine rn_plain ?_ | refine rn_block ?_ | refine rn_inBlock ?_ | refine rn_skip ?_ | refine rn_true rfl ?_ | refine rn_false rfl ?_ | refine rn_exit rfl ?_ | refine pl_not rfl rfl ?_))
  have s1 := hk1.size
  have s2 := hk2.size
  refine rn_ret Tryz.func99 (.inl ⟨_, rfl, rfl⟩) ⟨(l, m), hT3, (hL.keep hk4 (by simp; omega)).mono (by omega), h4, (((Keep.of0 hk1).tr hk2).tr hk3).tr hk4⟩

/-! ### A statement -/
/-- A statement that is being made at b5, since w, and the reader. -/
structure Sx (w0 : World) (lv : Value) (ts : List Tok) (fin b : Nat) (vv : Value) (vs : List VarT) (w : World) (B b4 b5 kk v : Nat) (e g : ET) (lb lo : List ST) (ce cf : List Value) (bv ov : Value) (w' : World) (i : Nat) : Prop where
  rd : Rd w0 lv ts fin b vv vs w' i
  z : Blk w' b5 (scells (kk : Nat) (v : Nat) ce cf bv ov) 43
  gd : Gd w' B e g lb lo ce cf bv ov
  fm : Fm ce cf bv ov
  y : Blk w' b4 zst 43
  kp : Keep [b] w w'
  sz : B ≤ w'.heap.size
/-- What stands where. -/
structure La (w0 w : World) (b b4 b5 B : Nat) : Prop where
  h1 : b < w.heap.size
  h2 : w.heap.size ≤ b4
  h3 : b4 < b5
  h4 : b5 < B
  h5 : w0.heap.size ≤ w.heap.size
section
variable {B b4 b5 kk v v' j : Nat} {e g e' g' : ET} {lb lo lb' lo' : List ST} {ce cf ce' cf' : List Value} {bv ov bv' ov' : Value} {w'' : World}
theorem Sx.call (h : Sx w0 lv ts fin b vv vs w B b4 b5 kk v e g lb lo ce cf bv ov w' i) (la : La w0 w b b4 b5 B) (hr : Rd w0 lv ts fin b vv vs w'' j) (hk : Keep [b] w' w'') : Sx w0 lv ts fin b vv vs w B b4 b5 kk v e g lb lo ce cf bv ov w'' j := by
  obtain ⟨l1, l2, l3, l4, l5⟩ := la
  exact ⟨hr, hk.blk h.z (by simp; omega), h.gd.keep hk (by simp; omega), h.fm, hk.blk h.y (by simp; omega), h.kp.tr hk, Nat.le_trans h.sz hk.size⟩
theorem Sx.store (h : Sx w0 lv ts fin b vv vs w B b4 b5 kk v e g lb lo ce cf bv ov w' i) (la : La w0 w b b4 b5 B) (hk : Keep [b5] w' w'') (hz : Blk w'' b5 (scells (kk : Nat) (v' : Nat) ce' cf' bv' ov') 43) (hg : Gd w' B e' g' lb' lo' ce' cf' bv' ov') (hf : Fm ce' cf' bv' ov') :
    Sx w0 lv ts fin b vv vs w B b4 b5 kk v' e' g' lb' lo' ce' cf' bv' ov' w'' i := by
  obtain ⟨l1, l2, l3, l4, l5⟩ := la
  exact ⟨h.rd.put h.z (by omega) hk (by decide), hz, hg.keep hk (by simp; omega), hf, hk.blk h.y (by simp; omega), h.kp.trB hk (by omega), Nat.le_trans h.sz hk.size⟩
end
theorem XpR.cells {r : Value} {t : ET} (h : XpR w w' r t) : ∃ cs : List Value, r = .agg cs.toArray ∧ cs.length = 4 ∧ (∀ u ∈ cs, u.oneCell' = true) ∧ ∃ F : Nat → Prop, ExprV F w' cs t ∧ ∀ c, F c → w.heap.size ≤ c ∧ c < w'.heap.size := by
  obtain ⟨cs, F, h1, h2, h3⟩ := h
  exact ⟨cs, h1, h2.length, h2.one, F, h2, h3⟩

theorem stmt_end (hct : Ct ts) (hw0 : Lw w0) (hvl : vs.length ≤ 100000) : ∀ (f deep i : Nat) {w : World}, deep + f = 13 → Rd w0 lv ts fin b vv vs w i →
    Goes 81 [.pointer (some ⟨b, 0, none⟩), .int .i64 (deep : Nat)] w0 w (stmtP ts fin vs f i) fun q r w' => StR w w' r q.1 ∧ Rd w0 lv ts fin b vv vs w' q.2 ∧ Keep [b] w w' := by
  intro f
  induction f using Nat.strongRecOn with
  | _ f ih =>
  intro deep i w hdf h
  have hbw := h.lt
  refine end_of 55 Tryz.func81 rfl rfl (by simp) ?_
  (repeat (first | refine pl_pure hT rfl rfl rfl ?_ | refine pl_nil ?_ | refine rn_seq ?_ | refine rn_plain ?_ | refine rn_block ?_ | refine rn_inBlock ?_ | refine rn_skip ?_ | refine rn_true rfl ?_ | refine rn_false rfl ?_ | refine rn_exit rfl ?_ | refine pl_not rfl rfl ?_))
  refine pl_op rfl rfl (opTo_allocN _ rfl zero_st ?_)
  intro w1 b4 hb40 hs1 hk1 hz1
  have h1 := h.keep0 hk1
  (repeat (first | refine pl_pure hT rfl rfl rfl ?_ | refine pl_nil ?_ | refine rn_seq ?_ | refine rn_plain ?_ | refine rn_block ?_ | refine rn_inBlock ?_ | refine rn_skip ?_ | refine rn_true rfl ?_ | refine rn_false rfl ?_ | refine rn_exit rfl ?_ | refine pl_not rfl rfl ?_))
  obtain ⟨ex, hex⟩ : ∃ ex, ex = exprP ts fin vs (f - 1) := ⟨_, rfl⟩
  obtain ⟨one, hone⟩ : ∃ one, one = stmtP ts fin vs (f - 1) := ⟨_, rfl⟩
  rw [stmtP_eq ts fin vs hdf i, ← hone, ← hex]
  obtain ⟨TOT, hTOT⟩ : ∃ TOT, TOT = bnd (bnd (if 12 < deep then .error (wrongAt ts fin 4 i) else .ok i) (beginP ts fin verbT 7)) (fun (k, i1) => st1 ts fin vs ex one k i1) := ⟨_, rfl⟩
  rw [← hTOT]
  refine pl_opE Tryz.func81 rfl rfl (opE_call (fst := []) (cap := []) rfl rfl rfl rfl (by decide +kernel) (End.mono (begin_end hct hw0 h1 wr_verb deep) ?_ ?_))
  rotate_left
  · rintro v w2 ⟨e, hX, r⟩
    exact ⟨e, by rw [hTOT, hX]; rfl, r⟩
  rintro r w2 ⟨⟨kk, i1⟩, hX1, rfl, h2, hk2⟩
  rw [hX1] at hTOT
  have hT1 : TOT = st1 ts fin vs ex one kk i1 := hTOT
  have hd : ¬ 12 < deep := by
    intro hd
    rw [if_pos hd] at hX1
    cases hX1
  have hz2 := hk2.blk hz1 (by simp; omega)
  have hk02 : Keep [b] w w2 := (Keep.of0 hk1).tr hk2
  have hw2 : w1.heap.size ≤ w2.heap.size := hk2.size
  refine pl_val _ rfl rfl (val_build _ rfl rfl (built_st (kk : Nat)) w2) ?_
  refine pl_op rfl rfl (opTo_allocN _ rfl zero_st ?_)
  intro w3 b5 hb50 hs3 hk3 hz3
  refine pl_op rfl rfl (opTo_storeN (scells (kk : Nat) 0 zx zx (.slice none 0 0) (.slice none 0 0)) rfl rfl rfl rfl size_st hz3 (by rw [scells_len Fm.zero]; simp [zst, scells_len Fm.zero]) (scells_one Fm.zero) ?_)
  intro w4 hs4 hk4 hz4
  rw [splice_whole (by rfl)] at hz4
  have hk24 : Keep [] w2 w4 := hk3.trB hk4 (by omega)
  have hk04 : Keep [b] w w4 := hk02.tr0 hk24
  obtain ⟨B, hB⟩ : ∃ B, B = w4.heap.size := ⟨_, rfl⟩
  have la : La w0 w b b4 b5 B := ⟨hbw, by omega, by omega, by have := hz4.lt; omega, h.kp.size⟩
  have s4 : Sx w0 lv ts fin b vv vs w B b4 b5 kk 0 zeroT zeroT [] [] zx zx (.slice none 0 0) (.slice none 0 0) w4 i1 :=
    ⟨h2.keep0 hk24, hz4, Gd.zero, Fm.zero, hk24.blk hz2 (by simp), hk04, by omega⟩
  (repeat (first | refine pl_pure hT rfl rfl rfl ?_ | refine pl_nil ?_ | refine rn_seq ?_ | refine rn_plain ?_ | refine rn_block ?_ | refine rn_inBlock ?_ | refine rn_skip ?_ | refine rn_true rfl ?_ | refine rn_false rfl ?_ | refine rn_exit rfl ?_ | refine pl_not rfl rfl ?_))
  refine pl_val _ rfl rfl (val_load1 hT rfl rfl rfl (s4.z.cell rfl)) ?_
  refine pl_op rfl rfl (opTo_call (fst := []) (cap := []) rfl rfl rfl rfl (by decide +kernel) ((has_ret ((kk : Nat) : Int) w4).mono ?_))
  rintro r w4' ⟨rfl, rfl⟩
  unfold hasV
  (repeat (first | refine pl_pure hT rfl rfl rfl ?_ | refine pl_not rfl rfl ?_ | refine pl_nil ?_ | refine rn_inBlock ?_ | refine rn_skip ?_ | refine rn_true rfl ?_ | refine rn_false rfl ?_ | refine rn_exit rfl ?_))
  refine rn_seq ?_
  refine rn_with (fun σ' w' => ∃ v i2 : Nat, TOT = st2 ts fin ex one kk v i2 ∧ Sx w0 lv ts fin b vv vs w B b4 b5 kk v zeroT zeroT [] [] zx zx (.slice none 0 0) (.slice none 0 0) w' i2 ∧ Sub [(0, .pointer (some ⟨b, 0, none⟩)), (1, .int .i64 (deep : Nat)), (4, .pointer (some ⟨b4, 0, none⟩)), (5, .pointer (some ⟨b5, 0, none⟩)), (6, .bool (needE (kk : Nat))), (7, .bool (needF (kk : Nat))), (9, .bool (needB (kk : Nat))), (10, .bool (needO (kk : Nat)))] σ') ?_ ?_
  rotate_left
  · intro fin1
    refine rn_seq ?_
    refine rn_plain ?_
    obtain ⟨q, hq⟩ : ∃ q, q = needV ((kk : Nat) : Int) := ⟨_, rfl⟩
    rw [← hq]
    unfold st1 at hT1
    rw [← hq] at hT1
    cases q with
    | true =>
      have hT2 : TOT = bnd (varP ts fin vs i1) fun (v, i2) => st2 ts fin ex one kk v i2 := hT1
      (repeat (first | refine pl_pure hT rfl rfl rfl ?_ | refine pl_not rfl rfl ?_ | refine pl_nil ?_ | refine rn_inBlock ?_ | refine rn_skip ?_ | refine rn_true rfl ?_ | refine rn_false rfl ?_ | refine rn_exit rfl ?_))
      refine rn_plain ?_
      (repeat (first | refine pl_pure hT rfl rfl rfl ?_ | refine pl_not rfl rfl ?_ | refine pl_nil ?_ | refine rn_inBlock ?_ | refine rn_skip ?_ | refine rn_true rfl ?_ | refine rn_false rfl ?_ | refine rn_exit rfl ?_))
      refine pl_opE Tryz.func81 rfl rfl (opE_call (fst := []) (cap := []) rfl rfl rfl rfl (by decide +kernel) (End.mono (variable_end s4.rd hvl) ?_ ?_))
      rotate_left
      · rintro x w6 ⟨e0, hX, r⟩
        exact ⟨e0, by rw [hT2, hX]; rfl, r⟩
      rintro r w5 ⟨⟨v, j⟩, hX, rfl, h5, hk5⟩
      rw [hX] at hT2
      have s5 := s4.call la h5 hk5
      (repeat (first | refine pl_pure hT rfl rfl rfl ?_ | refine pl_not rfl rfl ?_ | refine pl_nil ?_ | refine rn_inBlock ?_ | refine rn_skip ?_ | refine rn_true rfl ?_ | refine rn_false rfl ?_ | refine rn_exit rfl ?_))
      refine pl_op rfl rfl (opTo_storeN [.int .i64 ((v : Nat) : Int)] rfl rfl rfl rfl size_int s5.z (by rw [scells_len Fm.zero]; simp) (by simp; rfl) ?_)
      intro w6 hs6 hk6 hz6
      rw [sp_v] at hz6
      (repeat (first | refine pl_pure hT rfl rfl rfl ?_ | refine pl_not rfl rfl ?_ | refine pl_nil ?_ | refine rn_inBlock ?_ | refine rn_skip ?_ | refine rn_true rfl ?_ | refine rn_false rfl ?_ | refine rn_exit rfl ?_))
      exact fin1 _ _ ⟨v, j, hT2, s5.store la hk6 hz6 s5.gd s5.fm, rfl, rfl, rfl, rfl, rfl, rfl, rfl, rfl, trivial⟩
    | false =>
      (repeat (first | refine pl_pure hT rfl rfl rfl ?_ | refine pl_not rfl rfl ?_ | refine pl_nil ?_ | refine rn_inBlock ?_ | refine rn_skip ?_ | refine rn_true rfl ?_ | refine rn_false rfl ?_ | refine rn_exit rfl ?_))
      exact fin1 _ _ ⟨0, i1, hT1, s4, rfl, rfl, rfl, rfl, rfl, rfl, rfl, rfl, trivial⟩
  rintro σ' w5 ⟨v, i, hTT, s5, hsub⟩
  refine rn_sub hsub ?_
  clear hsub
  refine rn_seq ?_
  refine rn_with (fun σ' w' => ∃ (v : Nat) (e : ET) (ce : List Value) (k : Nat), TOT = st3 ts fin ex one kk v e k ∧ Sx w0 lv ts fin b vv vs w B b4 b5 kk v e zeroT [] [] ce zx (.slice none 0 0) (.slice none 0 0) w' k ∧ Sub [(0, .pointer (some ⟨b, 0, none⟩)), (1, .int .i64 (deep : Nat)), (4, .pointer (some ⟨b4, 0, none⟩)), (5, .pointer (some ⟨b5, 0, none⟩)), (7, .bool (needF (kk : Nat))), (9, .bool (needB (kk : Nat))), (10, .bool (needO (kk : Nat)))] σ') ?_ ?_
  rotate_left
  · intro fin1
    refine rn_seq ?_
    refine rn_plain ?_
    obtain ⟨q, hq⟩ : ∃ q, q = needE ((kk : Nat) : Int) := ⟨_, rfl⟩
    rw [← hq]
    unfold st2 at hTT
    rw [← hq] at hTT
    cases q with
    | true =>
      have hT2 : TOT = bnd (ex i) fun (t, k) => st3 ts fin ex one kk v t k := hTT
      (repeat (first | refine pl_pure hT rfl rfl rfl ?_ | refine pl_not rfl rfl ?_ | refine pl_nil ?_ | refine rn_inBlock ?_ | refine rn_skip ?_ | refine rn_true rfl ?_ | refine rn_false rfl ?_ | refine rn_exit rfl ?_))
      refine rn_plain ?_
      (repeat (first | refine pl_pure hT rfl rfl rfl ?_ | refine pl_not rfl rfl ?_ | refine pl_nil ?_ | refine rn_inBlock ?_ | refine rn_skip ?_ | refine rn_true rfl ?_ | refine rn_false rfl ?_ | refine rn_exit rfl ?_))
      refine pl_num (((deep + 1 : Nat) : Int)) rfl rfl rfl rfl rfl (by simp only [ariP]; omega) ?_
      refine pl_opE Tryz.func81 rfl rfl (opE_call (fst := []) (cap := []) rfl rfl rfl rfl (by decide +kernel) (End.mono (expr_end hct hw0 hvl (f - 1) (deep + 1) i (by omega) s5.rd) ?_ ?_))
      rotate_left
      · rintro x w6 ⟨e0, hX, r⟩
        rw [← hex] at hX
        exact ⟨e0, by rw [hT2, hX]; rfl, r⟩
      rintro r w6 ⟨⟨t, j⟩, hX, hE, h6, hk6⟩
      rw [← hex] at hX
      rw [hX] at hT2
      obtain ⟨cs, rfl, hcs4, hcs1, F', he2, he3⟩ := hE.cells
      have s6 := s5.call la h6 hk6
      (repeat (first | refine pl_pure hT rfl rfl rfl ?_ | refine pl_not rfl rfl ?_ | refine pl_nil ?_ | refine rn_inBlock ?_ | refine rn_skip ?_ | refine rn_true rfl ?_ | refine rn_false rfl ?_ | refine rn_exit rfl ?_))
      refine pl_op rfl rfl (opTo_storeN cs rfl rfl rfl rfl (by rw [hcs4]; exact size_expr) s6.z (by rw [scells_len s6.fm, hcs4]; decide) hcs1 ?_)
      intro w7 hs7 hk7 hz7
      have hz7' := hz7
      rw [show splice _ _ cs = _ from sp_e (op := ((kk : Nat) : Int)) (v := ((v : Nat) : Int)) s6.fm hcs4] at hz7'
      (repeat (first | refine pl_pure hT rfl rfl rfl ?_ | refine pl_not rfl rfl ?_ | refine pl_nil ?_ | refine rn_inBlock ?_ | refine rn_skip ?_ | refine rn_true rfl ?_ | refine rn_false rfl ?_ | refine rn_exit rfl ?_))
      refine fin1 _ _ ⟨v, t, cs, j, hT2, s6.store la hk7 hz7' ?_ ⟨hcs4, s6.fm.lf, hcs1, s6.fm.of, s6.fm.bv, s6.fm.ov⟩, rfl, rfl, rfl, rfl, rfl, rfl, rfl, trivial⟩
      obtain ⟨F, hF, h1, h2, h3, h4⟩ := s6.gd
      refine ⟨fun c => F c ∨ F' c, ?_, he2.mono fun c h => .inr h, h2.mono fun c h => .inl h, h3.mono fun c h => .inl h, h4.mono fun c h => .inl h⟩
      rintro c (h | h)
      · exact hF c h
      · have := he3 c h
        have := s5.sz
        exact ⟨by omega, (he3 c h).2⟩
    | false =>
      (repeat (first | refine pl_pure hT rfl rfl rfl ?_ | refine pl_not rfl rfl ?_ | refine pl_nil ?_ | refine rn_inBlock ?_ | refine rn_skip ?_ | refine rn_true rfl ?_ | refine rn_false rfl ?_ | refine rn_exit rfl ?_))
      exact fin1 _ _ ⟨v, zeroT, zx, i, hTT, s5, rfl, rfl, rfl, rfl, rfl, rfl, rfl, trivial⟩
  rintro σ' w5 ⟨v, e, ce, i, hTT, s5, hsub⟩
  refine rn_sub hsub ?_
  clear hsub
  refine rn_seq ?_
  refine rn_with (fun σ' w' => ∃ (v : Nat) (e g : ET) (ce cf : List Value) (k : Nat), TOT = st4 ts fin one kk v e g k ∧ Sx w0 lv ts fin b vv vs w B b4 b5 kk v e g [] [] ce cf (.slice none 0 0) (.slice none 0 0) w' k ∧ Sub [(0, .pointer (some ⟨b, 0, none⟩)), (1, .int .i64 (deep : Nat)), (4, .pointer (some ⟨b4, 0, none⟩)), (5, .pointer (some ⟨b5, 0, none⟩)), (9, .bool (needB (kk : Nat))), (10, .bool (needO (kk : Nat)))] σ') ?_ ?_
  rotate_left
  · intro fin1
    refine rn_seq ?_
    refine rn_plain ?_
    obtain ⟨q, hq⟩ : ∃ q, q = needF ((kk : Nat) : Int) := ⟨_, rfl⟩
    rw [← hq]
    unfold st3 at hTT
    rw [← hq] at hTT
    cases q with
    | true =>
      have hT2 : TOT = bnd (ex i) fun (t, k) => st4 ts fin one kk v e t k := hTT
      (repeat (first | refine pl_pure hT rfl rfl rfl ?_ | refine pl_not rfl rfl ?_ | refine pl_nil ?_ | refine rn_inBlock ?_ | refine rn_skip ?_ | refine rn_true rfl ?_ | refine rn_false rfl ?_ | refine rn_exit rfl ?_))
      refine rn_plain ?_
      (repeat (first | refine pl_pure hT rfl rfl rfl ?_ | refine pl_not rfl rfl ?_ | refine pl_nil ?_ | refine rn_inBlock ?_ | refine rn_skip ?_ | refine rn_true rfl ?_ | refine rn_false rfl ?_ | refine rn_exit rfl ?_))
      refine pl_num (((deep + 1 : Nat) : Int)) rfl rfl rfl rfl rfl (by simp only [ariP]; omega) ?_
      refine pl_opE Tryz.func81 rfl rfl (opE_call (fst := []) (cap := []) rfl rfl rfl rfl (by decide +kernel) (End.mono (expr_end hct hw0 hvl (f - 1) (deep + 1) i (by omega) s5.rd) ?_ ?_))
      rotate_left
      · rintro x w6 ⟨e0, hX, r⟩
        rw [← hex] at hX
        exact ⟨e0, by rw [hT2, hX]; rfl, r⟩
      rintro r w6 ⟨⟨t, j⟩, hX, hE, h6, hk6⟩
      rw [← hex] at hX
      rw [hX] at hT2
      obtain ⟨cs, rfl, hcs4, hcs1, F', he2, he3⟩ := hE.cells
      have s6 := s5.call la h6 hk6
      (repeat (first | refine pl_pure hT rfl rfl rfl ?_ | refine pl_not rfl rfl ?_ | refine pl_nil ?_ | refine rn_inBlock ?_ | refine rn_skip ?_ | refine rn_true rfl ?_ | refine rn_false rfl ?_ | refine rn_exit rfl ?_))
      refine pl_op rfl rfl (opTo_storeN cs rfl rfl rfl rfl (by rw [hcs4]; exact size_expr) s6.z (by rw [scells_len s6.fm, hcs4]; decide) hcs1 ?_)
      intro w7 hs7 hk7 hz7
      have hz7' := hz7
      rw [show splice _ _ cs = _ from sp_f (op := ((kk : Nat) : Int)) (v := ((v : Nat) : Int)) s6.fm hcs4] at hz7'
      (repeat (first | refine pl_pure hT rfl rfl rfl ?_ | refine pl_not rfl rfl ?_ | refine pl_nil ?_ | refine rn_inBlock ?_ | refine rn_skip ?_ | refine rn_true rfl ?_ | refine rn_false rfl ?_ | refine rn_exit rfl ?_))
      refine fin1 _ _ ⟨v, e, t, ce, cs, j, hT2, s6.store la hk7 hz7' ?_ ⟨s6.fm.le, hcs4, s6.fm.oe, hcs1, s6.fm.bv, s6.fm.ov⟩, rfl, rfl, rfl, rfl, rfl, rfl, trivial⟩
      obtain ⟨F, hF, h1, h2, h3, h4⟩ := s6.gd
      refine ⟨fun c => F c ∨ F' c, ?_, h1.mono fun c h => .inl h, he2.mono fun c h => .inr h, h3.mono fun c h => .inl h, h4.mono fun c h => .inl h⟩
      rintro c (h | h)
      · exact hF c h
      · have := he3 c h
        have := s5.sz
        exact ⟨by omega, (he3 c h).2⟩
    | false =>
      (repeat (first | refine pl_pure hT rfl rfl rfl ?_ | refine pl_not rfl rfl ?_ | refine pl_nil ?_ | refine rn_inBlock ?_ | refine rn_skip ?_ | refine rn_true rfl ?_ | refine rn_false rfl ?_ | refine rn_exit rfl ?_))
      exact fin1 _ _ ⟨v, e, zeroT, ce, zx, i, hTT, s5, rfl, rfl, rfl, rfl, rfl, rfl, trivial⟩
  rintro σ' w5 ⟨v, e, g, ce, cf, i, hTT, s5, hsub⟩
  refine rn_sub hsub ?_
  clear hsub
  refine rn_seq ?_
  refine rn_with (fun σ' w' => ∃ (v : Nat) (e g : ET) (lb : List ST) (ce cf : List Value) (bv : Value) (k : Nat), TOT = st5 ts fin one kk v e g lb k ∧ Sx w0 lv ts fin b vv vs w B b4 b5 kk v e g lb [] ce cf bv (.slice none 0 0) w' k ∧ Sub [(0, .pointer (some ⟨b, 0, none⟩)), (1, .int .i64 (deep : Nat)), (4, .pointer (some ⟨b4, 0, none⟩)), (5, .pointer (some ⟨b5, 0, none⟩)), (10, .bool (needO (kk : Nat)))] σ') ?_ ?_
  rotate_left
  · intro fin1
    refine rn_seq ?_
    refine rn_plain ?_
    obtain ⟨q, hq⟩ : ∃ q, q = needB ((kk : Nat) : Int) := ⟨_, rfl⟩
    rw [← hq]
    unfold st4 at hTT
    rw [← hq] at hTT
    cases q with
    | true =>
      have hT2 : TOT = bnd (listP ts fin one i) fun (t, k) => st5 ts fin one kk v e g t k := hTT
      (repeat (first | refine pl_pure hT rfl rfl rfl ?_ | refine pl_not rfl rfl ?_ | refine pl_nil ?_ | refine rn_inBlock ?_ | refine rn_skip ?_ | refine rn_true rfl ?_ | refine rn_false rfl ?_ | refine rn_exit rfl ?_))
      refine rn_plain ?_
      (repeat (first | refine pl_pure hT rfl rfl rfl ?_ | refine pl_not rfl rfl ?_ | refine pl_nil ?_ | refine rn_inBlock ?_ | refine rn_skip ?_ | refine rn_true rfl ?_ | refine rn_false rfl ?_ | refine rn_exit rfl ?_))
      refine pl_num (((deep + 1 : Nat) : Int)) rfl rfl rfl rfl rfl (by simp only [ariP]; omega) ?_
      refine pl_opE Tryz.func81 rfl rfl (opE_call (fst := []) (cap := []) rfl rfl rfl rfl (by decide +kernel) (End.mono (list_end (one := stmtP ts fin vs (f - 1)) (deep := deep + 1) hct (stmtP_ok vs (f - 1)) (fun i w h => ih (f - 1) (by omega) (deep + 1) i (by omega) h) s5.rd) ?_ ?_))
      rotate_left
      · rintro x w6 ⟨e0, hX, r⟩
        rw [← hone] at hX
        exact ⟨e0, by rw [hT2, hX]; rfl, r⟩
      rintro r w6 ⟨⟨t, j⟩, hX, hL, h6, hk6⟩
      rw [← hone] at hX
      rw [hX] at hT2
      obtain ⟨⟨a, n, c, rfl, _⟩, F', he2, he3⟩ := hL
      have s6 := s5.call la h6 hk6
      (repeat (first | refine pl_pure hT rfl rfl rfl ?_ | refine pl_not rfl rfl ?_ | refine pl_nil ?_ | refine rn_inBlock ?_ | refine rn_skip ?_ | refine rn_true rfl ?_ | refine rn_false rfl ?_ | refine rn_exit rfl ?_))
      refine pl_op rfl rfl (opTo_storeN [.slice a n c] rfl rfl rfl rfl size_sts s6.z (by rw [scells_len s6.fm]; simp) (by simp; rfl) ?_)
      intro w7 hs7 hk7 hz7
      have hz7' := hz7
      rw [show splice _ _ [.slice a n c] = _ from sp_b (op := ((kk : Nat) : Int)) (v := ((v : Nat) : Int)) s6.fm (.slice a n c)] at hz7'
      (repeat (first | refine pl_pure hT rfl rfl rfl ?_ | refine pl_not rfl rfl ?_ | refine pl_nil ?_ | refine rn_inBlock ?_ | refine rn_skip ?_ | refine rn_true rfl ?_ | refine rn_false rfl ?_ | refine rn_exit rfl ?_))
      refine fin1 _ _ ⟨v, e, g, t, ce, cf, .slice a n c, j, hT2, s6.store la hk7 hz7' ?_ ⟨s6.fm.le, s6.fm.lf, s6.fm.oe, s6.fm.of, rfl, s6.fm.ov⟩, rfl, rfl, rfl, rfl, rfl, trivial⟩
      obtain ⟨F, hF, h1, h2, h3, h4⟩ := s6.gd
      refine ⟨fun c => F c ∨ F' c, ?_, h1.mono fun c h => .inl h, h2.mono fun c h => .inl h, he2.mono fun c h => .inr h, h4.mono fun c h => .inl h⟩
      rintro c (h | h)
      · exact hF c h
      · have := he3 c h
        have := s5.sz
        exact ⟨by omega, (he3 c h).2⟩
    | false =>
      (repeat (first | refine pl_pure hT rfl rfl rfl ?_ | refine pl_not rfl rfl ?_ | refine pl_nil ?_ | refine rn_inBlock ?_ | refine rn_skip ?_ | refine rn_true rfl ?_ | refine rn_false rfl ?_ | refine rn_exit rfl ?_))
      exact fin1 _ _ ⟨v, e, g, [], ce, cf, (.slice none 0 0), i, hTT, s5, rfl, rfl, rfl, rfl, rfl, trivial⟩
  rintro σ' w5 ⟨v, e, g, lb, ce, cf, bv, i, hTT, s5, hsub⟩
  refine rn_sub hsub ?_
  clear hsub
  refine rn_seq ?_
  refine rn_with (fun σ' w' => ∃ (v : Nat) (e g : ET) (lb lo : List ST) (ce cf : List Value) (bv ov : Value) (k : Nat), TOT = st6 ts fin kk v e g lb lo k ∧ Sx w0 lv ts fin b vv vs w B b4 b5 kk v e g lb lo ce cf bv ov w' k ∧ Sub [(0, .pointer (some ⟨b, 0, none⟩)), (1, .int .i64 (deep : Nat)), (4, .pointer (some ⟨b4, 0, none⟩)), (5, .pointer (some ⟨b5, 0, none⟩))] σ') ?_ ?_
  rotate_left
  · intro fin1
    refine rn_seq ?_
    refine rn_plain ?_
    obtain ⟨q, hq⟩ : ∃ q, q = needO ((kk : Nat) : Int) := ⟨_, rfl⟩
    rw [← hq]
    unfold st5 at hTT
    rw [← hq] at hTT
    cases q with
    | true =>
      have hT2 : TOT = bnd (listP ts fin one i) fun (t, k) => st6 ts fin kk v e g lb t k := hTT
      (repeat (first | refine pl_pure hT rfl rfl rfl ?_ | refine pl_not rfl rfl ?_ | refine pl_nil ?_ | refine rn_inBlock ?_ | refine rn_skip ?_ | refine rn_true rfl ?_ | refine rn_false rfl ?_ | refine rn_exit rfl ?_))
      refine rn_plain ?_
      (repeat (first | refine pl_pure hT rfl rfl rfl ?_ | refine pl_not rfl rfl ?_ | refine pl_nil ?_ | refine rn_inBlock ?_ | refine rn_skip ?_ | refine rn_true rfl ?_ | refine rn_false rfl ?_ | refine rn_exit rfl ?_))
      refine pl_num (((deep + 1 : Nat) : Int)) rfl rfl rfl rfl rfl (by simp only [ariP]; omega) ?_
      refine pl_opE Tryz.func81 rfl rfl (opE_call (fst := []) (cap := []) rfl rfl rfl rfl (by decide +kernel) (End.mono (list_end (one := stmtP ts fin vs (f - 1)) (deep := deep + 1) hct (stmtP_ok vs (f - 1)) (fun i w h => ih (f - 1) (by omega) (deep + 1) i (by omega) h) s5.rd) ?_ ?_))
      rotate_left
      · rintro x w6 ⟨e0, hX, r⟩
        rw [← hone] at hX
        exact ⟨e0, by rw [hT2, hX]; rfl, r⟩
      rintro r w6 ⟨⟨t, j⟩, hX, hL, h6, hk6⟩
      rw [← hone] at hX
      rw [hX] at hT2
      obtain ⟨⟨a, n, c, rfl, _⟩, F', he2, he3⟩ := hL
      have s6 := s5.call la h6 hk6
      (repeat (first | refine pl_pure hT rfl rfl rfl ?_ | refine pl_not rfl rfl ?_ | refine pl_nil ?_ | refine rn_inBlock ?_ | refine rn_skip ?_ | refine rn_true rfl ?_ | refine rn_false rfl ?_ | refine rn_exit rfl ?_))
      refine pl_op rfl rfl (opTo_storeN [.slice a n c] rfl rfl rfl rfl size_sts s6.z (by rw [scells_len s6.fm]; simp) (by simp; rfl) ?_)
      intro w7 hs7 hk7 hz7
      have hz7' := hz7
      rw [show splice _ _ [.slice a n c] = _ from sp_o (op := ((kk : Nat) : Int)) (v := ((v : Nat) : Int)) s6.fm (.slice a n c)] at hz7'
      (repeat (first | refine pl_pure hT rfl rfl rfl ?_ | refine pl_not rfl rfl ?_ | refine pl_nil ?_ | refine rn_inBlock ?_ | refine rn_skip ?_ | refine rn_true rfl ?_ | refine rn_false rfl ?_ | refine rn_exit rfl ?_))
      refine fin1 _ _ ⟨v, e, g, lb, t, ce, cf, bv, .slice a n c, j, hT2, s6.store la hk7 hz7' ?_ ⟨s6.fm.le, s6.fm.lf, s6.fm.oe, s6.fm.of, s6.fm.bv, rfl⟩, rfl, rfl, rfl, rfl, trivial⟩
      obtain ⟨F, hF, h1, h2, h3, h4⟩ := s6.gd
      refine ⟨fun c => F c ∨ F' c, ?_, h1.mono fun c h => .inl h, h2.mono fun c h => .inl h, h3.mono fun c h => .inl h, he2.mono fun c h => .inr h⟩
      rintro c (h | h)
      · exact hF c h
      · have := he3 c h
        have := s5.sz
        exact ⟨by omega, (he3 c h).2⟩
    | false =>
      (repeat (first | refine pl_pure hT rfl rfl rfl ?_ | refine pl_not rfl rfl ?_ | refine pl_nil ?_ | refine rn_inBlock ?_ | refine rn_skip ?_ | refine rn_true rfl ?_ | refine rn_false rfl ?_ | refine rn_exit rfl ?_))
      exact fin1 _ _ ⟨v, e, g, lb, [], ce, cf, bv, (.slice none 0 0), i, hTT, s5, rfl, rfl, rfl, rfl, trivial⟩
  rintro σ' w5 ⟨v, e, g, lb, lo, ce, cf, bv, ov, i, hTT, s5, hsub⟩
  refine rn_sub hsub ?_
  unfold st6 at hTT
  (repeat (first | refine pl_pure hT rfl rfl rfl ?_ | refine pl_nil ?_ | refine rn_seq ?_ | refine rn_plain ?_ | refine rn_block ?_ | refine rn_inBlock ?_ | refine rn_skip ?_ | refine rn_true rfl ?_ | refine rn_false rfl ?_ | refine rn_exit rfl ?_ | refine pl_not rfl rfl ?_))
  refine pl_opE Tryz.func81 rfl rfl (opE_call (fst := []) (cap := []) rfl rfl rfl rfl (by decide +kernel) (End.mono (text_end hct s5.rd [41] (by decide)) ?_ ?_))
  rotate_left
  · rintro x w6 ⟨e0, hX, r⟩
    exact ⟨e0, by rw [hTT, hX]; rfl, r⟩
  rintro r w6 ⟨j, hX, h6, hk6⟩
  rw [hX] at hTT
  have s6 := s5.call la h6 hk6
  have hl12 : (scells ((kk : Nat) : Int) ((v : Nat) : Int) ce cf bv ov).length = 12 := scells_len s6.fm
  (repeat (first | refine pl_pure hT rfl rfl rfl ?_ | refine pl_nil ?_ | refine rn_seq ?_ | refine rn_plain ?_ | refine rn_block ?_ | refine rn_inBlock ?_ | refine rn_skip ?_ | refine rn_true rfl ?_ | refine rn_false rfl ?_ | refine rn_exit rfl ?_ | refine pl_not rfl rfl ?_))
  refine pl_val _ rfl rfl (val_load (scells (kk : Nat) (v : Nat) ce cf bv ov) E.hT rfl rfl (by rw [hl12]; rfl) (s6.z.range (by simp))) ?_
  refine pl_op rfl rfl (opTo_storeN (scells (kk : Nat) (v : Nat) ce cf bv ov) rfl rfl rfl rfl (by rw [hl12]; exact size_st) s6.y (by rw [hl12]; simp [zst, scells_len Fm.zero]) (scells_one s6.fm) ?_)
  intro w7 hs7 hk7 hy7
  rw [splice_whole (by rw [hl12]; simp [zst, scells_len Fm.zero])] at hy7
  (repeat (first | refine pl_pure hT rfl rfl rfl ?_ | refine pl_nil ?_ | refine rn_seq ?_ | refine rn_plain ?_ | refine rn_block ?_ | refine rn_inBlock ?_ | refine rn_skip ?_ | refine rn_true rfl ?_ | refine rn_false rfl ?_ | refine rn_exit rfl ?_ | refine pl_not rfl rfl ?_))
  obtain ⟨l1, l2, l3, l4, l5⟩ := la
  obtain ⟨F, hF, h1, h2, h3, h4⟩ := s6.gd.keep hk7 (by simp; omega)
  refine rn_ret Tryz.func81 (.inr (.inr (.inl ⟨_, _, _, rfl, rfl, blk_loadVar E.hT hy7 (by rw [hl12]; rfl)⟩))) ⟨(.mk (kk : Nat) (v : Nat) e g lb lo, j), hTT, ⟨scells (kk : Nat) (v : Nat) ce cf bv ov, F, rfl, StmtV.of h1 h2 h3 h4, fun c hc => ?_⟩, s6.rd.put s6.y (by omega) hk7 (by decide), s6.kp.trB hk7 (by omega)⟩
  have := hF c hc
  have := hk04.size
  omega
end
end E
end Go.Proofs.YthbkcadiejfgaacGreatDoor
