/- Contracts of 'add': two lists wait for each other. -/
import Derived.Test.YtpbdjpoohpocfabCoH2
import Derived.Test.YtpbdjpoohpocfabTwO
namespace Go.Proofs.Ytpbdjpoohpocfab
set_option maxRecDepth 20000
set_option maxHeartbeats 4000000
namespace E
open Go.Proofs

theorem zero_placeE : ((Try.prog.info? 170).bind (·.zero)).map (·.cells) = some [Value.pointer none, .pointer none, .int .i64 0].toArray := by kernel_rfl
theorem built_placeE (a b : Option Addr) (n : Int) : Try.prog.built 170 [(0, .pointer a), (1, .pointer b), (2, .int .i64 n)] = some [Value.pointer a, .pointer b, .int .i64 n].toArray := by kernel_rfl
theorem built_twinsE (a b : Option Addr) (m c m' c' : Nat) : Try.prog.built 174 [(0, .slice a m c), (1, .slice b m' c')] = some [Value.slice a m c, .slice b m' c'].toArray := by kernel_rfl
theorem slice_twinsE (a b : Value) : sliceCells Try.prog 137 1 [(0, .agg #[a, b])] = some (174, #[a, b]) := by kernel_rfl

theorem addE_ne {w : World} {x na nb ca cb : Nat} {a b : Option Addr} (h : na ≠ nb) :
    Ret Try.prog 72 [.pointer (some ⟨x, 0, none⟩), .slice a na ca, .slice b nb cb] w fun r w' => r = .bool false ∧ w' = w := by
  refine ret_of 54 Try.func72 rfl rfl (by simp) ?_
  (repeat (first | refine pl_pure hT rfl rfl rfl ?_ | refine pl_nil ?_ | refine rn_seq ?_ | refine rn_plain ?_ | refine rn_block ?_ | refine rn_inBlock ?_ | refine rn_skip ?_ | refine rn_true rfl ?_ | refine rn_false rfl ?_ | refine rn_exit rfl ?_ | refine pl_not rfl rfl ?_))
  refine pl_yes rfl rfl rfl rfl rfl (by first | (simp only [cmpP]; omega) | (simp [cmpP]; done) | (simp [cmpP]; omega)) ?_
  (repeat (first | refine pl_pure hT rfl rfl rfl ?_ | refine pl_nil ?_ | refine rn_seq ?_ | refine rn_plain ?_ | refine rn_block ?_ | refine rn_inBlock ?_ | refine rn_skip ?_ | refine rn_true rfl ?_ | refine rn_false rfl ?_ | refine rn_exit rfl ?_ | refine pl_not rfl rfl ?_))
  exact rn_ret Try.func72 (.inl ⟨_, rfl, rfl⟩) ⟨rfl, rfl⟩
theorem addE_nil {w : World} {x na nb ca cb : Nat} {a b : Option Addr} (h : na = 0) (h' : nb = 0) :
    Ret Try.prog 72 [.pointer (some ⟨x, 0, none⟩), .slice a na ca, .slice b nb cb] w fun r w' => r = .bool true ∧ w' = w := by
  refine ret_of 54 Try.func72 rfl rfl (by simp) ?_
  (repeat (first | refine pl_pure hT rfl rfl rfl ?_ | refine pl_nil ?_ | refine rn_seq ?_ | refine rn_plain ?_ | refine rn_block ?_ | refine rn_inBlock ?_ | refine rn_skip ?_ | refine rn_true rfl ?_ | refine rn_false rfl ?_ | refine rn_exit rfl ?_ | refine pl_not rfl rfl ?_))
  refine pl_no rfl rfl rfl rfl rfl rfl (by first | (simp only [cmpP]; omega) | (simp [cmpP]; done) | (simp [cmpP]; omega)) ?_
  (repeat (first | refine pl_pure hT rfl rfl rfl ?_ | refine pl_nil ?_ | refine rn_seq ?_ | refine rn_plain ?_ | refine rn_block ?_ | refine rn_inBlock ?_ | refine rn_skip ?_ | refine rn_true rfl ?_ | refine rn_false rfl ?_ | refine rn_exit rfl ?_ | refine pl_not rfl rfl ?_))
  refine pl_yes rfl rfl rfl rfl rfl (by first | (simp only [cmpP]; omega) | (simp [cmpP]; done) | (simp [cmpP]; omega)) ?_
  (repeat (first | refine pl_pure hT rfl rfl rfl ?_ | refine pl_nil ?_ | refine rn_seq ?_ | refine rn_plain ?_ | refine rn_block ?_ | refine rn_inBlock ?_ | refine rn_skip ?_ | refine rn_true rfl ?_ | refine rn_false rfl ?_ | refine rn_exit rfl ?_ | refine pl_not rfl rfl ?_))
  exact rn_ret Try.func72 (.inl ⟨_, rfl, rfl⟩) ⟨rfl, rfl⟩

theorem addE_pos {w : World} {B x m : Nat} {M : List Nat} {V : List (Value × Value)} (h : St 139 174 w B x m M V) {g bb q n ca cb : Nat} {L : List Value} {e : TypeId} (hg : g ∉ M) (hbg : Blk w g L e) (hM : ∀ g' ∈ M, ∃ L e, Blk w g' L e) (hB : B ≤ w.heap.size) (hV : V.length ≤ 1000000) (hn : 0 < n) :
    Ret Try.prog 72 [.pointer (some ⟨x, 0, none⟩), .slice (some ⟨g, 0, none⟩) n ca, .slice (some ⟨bb, q, none⟩) n cb] w fun r w' => r = .bool true ∧ St 139 174 w' B x m (g :: M) (V ++ [(.slice (some ⟨g, 0, none⟩) n ca, .slice (some ⟨bb, q, none⟩) n cb)]) ∧ Tw B [x, m] [174] w w' := by
  obtain ⟨rv, hX, hO⟩ := h.blk
  obtain ⟨es, clock, hm, hkeys⟩ := h.map
  have hml : m < w.heap.size := (Array.getElem?_eq_some_iff.1 hm).1
  refine ret_of 54 Try.func72 rfl rfl (by simp) ?_
  (repeat (first | refine pl_pure hT rfl rfl rfl ?_ | refine pl_nil ?_ | refine rn_seq ?_ | refine rn_plain ?_ | refine rn_block ?_ | refine rn_inBlock ?_ | refine rn_skip ?_ | refine rn_true rfl ?_ | refine rn_false rfl ?_ | refine rn_exit rfl ?_ | refine pl_not rfl rfl ?_))
  refine pl_no rfl rfl rfl rfl rfl rfl (by first | (simp only [cmpP]; omega) | (simp [cmpP]; done) | (simp [cmpP]; omega)) ?_
  (repeat (first | refine pl_pure hT rfl rfl rfl ?_ | refine pl_nil ?_ | refine rn_seq ?_ | refine rn_plain ?_ | refine rn_block ?_ | refine rn_inBlock ?_ | refine rn_skip ?_ | refine rn_true rfl ?_ | refine rn_false rfl ?_ | refine rn_exit rfl ?_ | refine pl_not rfl rfl ?_))
  refine pl_no rfl rfl rfl rfl rfl rfl (by first | (simp only [cmpP]; omega) | (simp [cmpP]; done) | (simp [cmpP]; omega)) ?_
  (repeat (first | refine pl_pure hT rfl rfl rfl ?_ | refine pl_nil ?_ | refine rn_seq ?_ | refine rn_plain ?_ | refine rn_block ?_ | refine rn_inBlock ?_ | refine rn_skip ?_ | refine rn_true rfl ?_ | refine rn_false rfl ?_ | refine rn_exit rfl ?_ | refine pl_not rfl rfl ?_))
  refine rn_draw (fun w' => Keep [] w w') [8] hMix ?_
  have hS : Keep [] w w.drew := (Keep.refl _ _).drew
  generalize w.drew = w1 at *
  refine dr_pure 0 hT rfl (by decide +kernel) rfl rfl rfl ?_
  refine dr_any 1 (.pointer (some ⟨g, 0, none⟩)) rfl (by decide +kernel) rfl rfl (fun w => val_index (b := g) (q := 0) (sz := 4) 0 hT rfl rfl rfl rfl rfl hn w) ?_
  refine dr_pure 2 hT rfl (by decide +kernel) rfl rfl rfl ?_
  refine dr_any 3 (.pointer (some ⟨bb, q, none⟩)) rfl (by decide +kernel) rfl rfl (fun w => val_index (b := bb) (q := q) (sz := 4) 0 hT rfl rfl rfl rfl rfl hn w) ?_
  refine dr_pure 4 hT rfl (by decide +kernel) rfl rfl rfl ?_
  refine dr_pure 5 hT rfl (by decide +kernel) rfl rfl rfl ?_
  refine dr_any 6 _ rfl (by decide +kernel) rfl rfl (fun w => val_build _ rfl rfl (built_placeE _ _ _) w) ?_
  refine dr_op 7 rfl (by decide +kernel) rfl rfl (opTo_allocN _ rfl zero_placeE ?_)
  intro w2 c hc hs2 hk2 hc2
  refine ⟨fun _ => hS.tr hk2, ?_⟩
  refine dr_op 8 rfl (by decide +kernel) rfl rfl (opTo_storeN _ rfl rfl rfl rfl (by kernel_rfl) hc2 (by simp) (by intro u hu; simp at hu; rcases hu with rfl | rfl | rfl <;> rfl) ?_)
  intro w3 hs3 hk3 hc3
  refine ⟨fun h => absurd h (by simp), ?_⟩
  refine dr_done (by decide +kernel) ?_
  rw [splice_whole (by rfl)] at hc3
  have hkw3 : Keep [] w w3 := (hS.tr hk2).trB hk3 (by have := hS.size; omega)
  clear hk2 hk3 hc2 hS
  (repeat (first | refine pl_pure hT rfl rfl rfl ?_ | refine pl_nil ?_ | refine rn_seq ?_ | refine rn_plain ?_ | refine rn_block ?_ | refine rn_inBlock ?_ | refine rn_skip ?_ | refine rn_true rfl ?_ | refine rn_false rfl ?_ | refine rn_exit rfl ?_ | refine pl_not rfl rfl ?_))
  refine rn_draw (fun w' => Keep [] w3 w') [10] hMix ?_
  have hS : Keep [] w3 w3.drew := (Keep.refl _ _).drew
  generalize w3.drew = w4 at *
  refine dr_pure 0 hT rfl (by decide +kernel) rfl rfl rfl ?_
  refine dr_pure 1 hT rfl (by decide +kernel) rfl rfl rfl ?_
  refine dr_pure 2 hT rfl (by decide +kernel) rfl rfl rfl ?_
  refine dr_val 3 (.map (some m)) rfl (by decide +kernel) rfl rfl (fun w9 hS9 => val_load1 hT rfl rfl rfl (((hkw3.tr hS9).blk hX (by simp)).cell rfl)) hS ?_
  refine dr_val 4 _ rfl (by decide +kernel) rfl rfl (fun w9 hS9 => val_load [.pointer (some ⟨g, 0, none⟩), .pointer (some ⟨bb, q, none⟩), .int .i64 (n : Nat)] hT rfl rfl rfl ((hS9.blk hc3 (by simp)).range (by rfl))) hS ?_
  have hM9 : ∀ w9, Keep [] w3 w9 → ∀ g' ∈ M, ∃ L e, Blk w9 g' L e := fun w9 hS9 g' hg' => by
    obtain ⟨L', e', hb'⟩ := hM g' hg'
    exact ⟨L', e', (hkw3.tr hS9).blk hb' (by simp)⟩
  refine dr_val 5 _ rfl (by decide +kernel) rfl rfl (fun w9 hS9 => val_lookupMiss (kt := 170) (M := M) rfl rfl rfl (by decide +kernel) (((hkw3.tr hS9).block m hml (by simp)).trans hm) hkeys ((hkw3.tr hS9).blk hbg (by simp)) (hM9 w9 hS9) hg) hS ?_
  refine dr_pure 6 hT rfl (by decide +kernel) rfl rfl rfl ?_
  refine dr_pure 7 hT rfl (by decide +kernel) rfl rfl rfl ?_
  refine dr_pure 8 hT rfl (by decide +kernel) rfl rfl rfl ?_
  refine dr_op 9 rfl (by decide +kernel) rfl rfl (opTo_allocN [] rfl (by kernel_rfl) ?_)
  intro w5 d hd hs5 hk5 hd5
  refine ⟨fun _ => hS.tr hk5, ?_⟩
  refine dr_op 10 rfl (by decide +kernel) rfl rfl (opTo_storeN [] rfl rfl rfl rfl (by kernel_rfl) hd5 (by simp) (by simp) ?_)
  intro w6 hs6 hk6 hd6
  refine ⟨fun h => absurd h (by simp), ?_⟩
  refine dr_pure 11 hT rfl (by decide +kernel) rfl rfl rfl ?_
  refine dr_done (by decide +kernel) ?_
  have hk36 : Keep [] w3 w6 := (hS.tr hk5).trB hk6 (by have := hS.size; omega)
  clear hS hk5 hk6 hd5 hd6
  (repeat (first | refine pl_pure hT rfl rfl rfl ?_ | refine pl_nil ?_ | refine rn_seq ?_ | refine rn_plain ?_ | refine rn_block ?_ | refine rn_inBlock ?_ | refine rn_skip ?_ | refine rn_true rfl ?_ | refine rn_false rfl ?_ | refine rn_exit rfl ?_ | refine pl_not rfl rfl ?_))
  refine rn_draw (fun w' => Keep [] w6 w') [6] hMix ?_
  have hS : Keep [] w6 w6.drew := (Keep.refl _ _).drew
  generalize w6.drew = w7 at *
  refine dr_pure 0 hT rfl (by decide +kernel) rfl rfl rfl ?_
  refine dr_pure 1 hT rfl (by decide +kernel) rfl rfl rfl ?_
  refine dr_pure 2 hT rfl (by decide +kernel) rfl rfl rfl ?_
  refine dr_val 3 (.map (some m)) rfl (by decide +kernel) rfl rfl (fun w9 hS9 => val_load1 hT rfl rfl rfl ((((hkw3.tr hk36).tr hS9).blk hX (by simp)).cell rfl)) hS ?_
  refine dr_val 4 _ rfl (by decide +kernel) rfl rfl (fun w9 hS9 => val_load [.pointer (some ⟨g, 0, none⟩), .pointer (some ⟨bb, q, none⟩), .int .i64 (n : Nat)] hT rfl rfl rfl (((hk36.tr hS9).blk hc3 (by simp)).range (by rfl))) hS ?_
  refine dr_any 5 _ rfl (by decide +kernel) rfl rfl (fun w => val_build [] rfl rfl (by kernel_rfl) w) ?_
  have hkw7 : Keep [] w w7 := (hkw3.tr hk36).tr hS
  refine dr_op 6 rfl (by decide +kernel) rfl rfl (opTo_updateMiss (kt := 170) (M := M) rfl rfl rfl rfl (by decide +kernel) ((hkw7.block m hml (by simp)).trans hm) hkeys (hkw7.blk hbg (by simp)) (hM9 w7 (hk36.tr hS)) hg ?_)
  intro w8 hs8 hk8 hmap8
  refine ⟨fun h => absurd h (by simp), ?_⟩
  refine dr_done (by decide +kernel) ?_
  have hX7 := hkw7.blk hX (by simp)
  have hm7 := (hkw7.block m hml (by simp)).trans hm
  have hX8 := hk8.blk hX7 (by simpa using not_map hX7 hm7)
  have ho7 := hO.keep hkw7 (by simp)
  have ho8 := ho7.keep hk8 (fun k hk => by
    rcases ho7.2 with ⟨h0, _⟩ | ⟨g', cap', cur', h0, _, hb', _⟩
    · rw [h0] at hk; cases hk
    · rw [h0] at hk; simp [Value.ownBlock] at hk; subst hk; simpa using not_map hb' hm7)
  have ht8 : Tw B [x, m] [174] w w8 := (Tw.of hkw7).trans (Tw.of1 hk8 h.bm (.inl (by simp)))
  (repeat (first | refine pl_pure hT rfl rfl rfl ?_ | refine pl_nil ?_ | refine rn_seq ?_ | refine rn_plain ?_ | refine rn_block ?_ | refine rn_inBlock ?_ | refine rn_skip ?_ | refine rn_true rfl ?_ | refine rn_false rfl ?_ | refine rn_exit rfl ?_ | refine pl_not rfl rfl ?_))
  refine pl_val _ rfl rfl (val_load1 hT rfl rfl rfl (hX8.cell rfl)) ?_
  (repeat (first | refine pl_pure hT rfl rfl rfl ?_ | refine pl_nil ?_ | refine rn_seq ?_ | refine rn_plain ?_ | refine rn_block ?_ | refine rn_inBlock ?_ | refine rn_skip ?_ | refine rn_true rfl ?_ | refine rn_false rfl ?_ | refine rn_exit rfl ?_ | refine pl_not rfl rfl ?_))
  refine pl_val _ rfl rfl (val_build _ rfl rfl (built_twinsE _ _ _ _ _ _) w8) ?_
  refine pl_op rfl rfl (opTo_sliceN _ _ rfl rfl (slice_twinsE _ _) ?_)
  intro w9 y9 hy9 hs9 hk9 hY9
  have ho9 := ho8.keep hk9 (by simp)
  refine pl_op rfl rfl (opTo_app B 174 2 48 (V.flatMap fun p => [p.1, p.2]) [.slice (some ⟨g, 0, none⟩) n ca, .slice (some ⟨bb, q, none⟩) n cb] rfl rfl rfl (by decide +kernel) ho9 (hY9.range (by rfl)) rfl (by intro u hu; simp at hu; rcases hu with rfl | rfl <;> rfl) (by decide) (by unfold maxLen; omega) (by omega) (by have := ht8.size; have := hk9.size; omega) ?_)
  intro g10 cap10 w10 ho10 hor10
  have hk910 : Tw B [x, m] [174] w9 w10 ∧ (∀ k L e, Blk w9 k L e → e ≠ 174 → Blk w10 k L e) ∧ (∀ es c, w9.heap[m]? = some (.map es c) → w10.heap[m]? = some (.map es c)) := by
    rcases hor10 with ⟨h1, _, h2⟩ | ⟨_, h2, _⟩
    · rcases ho9.2 with ⟨h0, _⟩ | ⟨g', cap', cur', h0, hB', hb', _⟩
      · rw [h0] at h1; cases h1
      · rw [h0] at h1
        simp [Value.ownBlock] at h1
        subst h1
        exact ⟨Tw.of1 h2 hB' (.inr ⟨_, _, hb', by simp⟩), fun k L e hb he => h2.blk hb (by simpa using hb.ne hb' he), fun es c hmm => (h2.block m (Array.getElem?_eq_some_iff.1 hmm).1 (by simp; exact fun e => not_map hb' hmm e.symm)).trans hmm⟩
    · exact ⟨Tw.of h2, fun k L e hb _ => h2.blk hb (by simp), fun es c hmm => (h2.block m (Array.getElem?_eq_some_iff.1 hmm).1 (by simp)).trans hmm⟩
  obtain ⟨ht10, hb10, hm10⟩ := hk910
  have hX10 := hb10 _ _ _ (hk9.blk hX8 (by simp)) (by decide)
  obtain ⟨es', clock', hmm8, hkk8⟩ := hmap8
  have hmm9 := (hk9.block m (Array.getElem?_eq_some_iff.1 hmm8).1 (by simp)).trans hmm8
  have hmm10 := hm10 _ _ hmm9
  (repeat (first | refine pl_pure hT rfl rfl rfl ?_ | refine pl_nil ?_ | refine rn_seq ?_ | refine rn_plain ?_ | refine rn_block ?_ | refine rn_inBlock ?_ | refine rn_skip ?_ | refine rn_true rfl ?_ | refine rn_false rfl ?_ | refine rn_exit rfl ?_ | refine pl_not rfl rfl ?_))
  refine pl_op rfl rfl (opTo_storeN [.slice (some ⟨g10, 0, none⟩) (V.length + 1) cap10] rfl rfl rfl rfl (by kernel_rfl) hX10 (by simp) (by simp; rfl) ?_)
  intro w11 hs11 hk11 hX11
  have hx10 : ∀ k, (Value.slice (some ⟨g10, 0, none⟩) (V.length + 1) cap10).ownBlock = some k → k ∉ [x] := fun k hk => by
    simp [Value.ownBlock] at hk
    subst hk
    rcases ho10.2 with ⟨h0, _⟩ | ⟨g', cap', cur', h0, _, hb', _⟩
    · cases h0
    · injection h0 with h0; injection h0 with h0; injection h0 with h0; subst h0; simpa using (hb'.ne hX10 (by decide))
  have ho11 := ho10.keep hk11 hx10
  have hmm11 := (hk11.block m (Array.getElem?_eq_some_iff.1 hmm10).1 (by simp; exact fun e => not_map hX10 hmm10 e.symm)).trans hmm10
  have ht11 : Tw B [x, m] [174] w w11 := ((ht8.trans (Tw.of hk9)).trans ht10).trans (Tw.of1 hk11 h.bx (.inl (by simp)))
  (repeat (first | refine pl_pure hT rfl rfl rfl ?_ | refine pl_nil ?_ | refine rn_seq ?_ | refine rn_plain ?_ | refine rn_block ?_ | refine rn_inBlock ?_ | refine rn_skip ?_ | refine rn_true rfl ?_ | refine rn_false rfl ?_ | refine rn_exit rfl ?_ | refine pl_not rfl rfl ?_))
  refine rn_ret Try.func72 (.inl ⟨_, rfl, rfl⟩) ⟨rfl, ⟨h.bx, h.bm, ⟨_, hX11, ?_⟩, ⟨es', clock', hmm11, hkk8⟩⟩, ht11⟩
  have e1 : (V ++ [(Value.slice (some ⟨g, 0, none⟩) n ca, Value.slice (some ⟨bb, q, none⟩) n cb)]).length = V.length + 1 := by simp
  have e2 : ((V ++ [(Value.slice (some ⟨g, 0, none⟩) n ca, Value.slice (some ⟨bb, q, none⟩) n cb)]).flatMap fun p => [p.1, p.2]) = (V.flatMap fun p => [p.1, p.2]) ++ [.slice (some ⟨g, 0, none⟩) n ca, .slice (some ⟨bb, q, none⟩) n cb] := by simp
  rw [e1, e2]
  exact ho11

theorem zero_placeS : ((Try.prog.info? 178).bind (·.zero)).map (·.cells) = some [Value.pointer none, .pointer none, .int .i64 0].toArray := by kernel_rfl
theorem built_placeS (a b : Option Addr) (n : Int) : Try.prog.built 178 [(0, .pointer a), (1, .pointer b), (2, .int .i64 n)] = some [Value.pointer a, .pointer b, .int .i64 n].toArray := by kernel_rfl
theorem built_twinsS (a b : Option Addr) (m c m' c' : Nat) : Try.prog.built 180 [(0, .slice a m c), (1, .slice b m' c')] = some [Value.slice a m c, .slice b m' c'].toArray := by kernel_rfl
theorem slice_twinsS (a b : Value) : sliceCells Try.prog 133 1 [(0, .agg #[a, b])] = some (180, #[a, b]) := by kernel_rfl

theorem addS_ne {w : World} {x na nb ca cb : Nat} {a b : Option Addr} (h : na ≠ nb) :
    Ret Try.prog 74 [.pointer (some ⟨x, 0, none⟩), .slice a na ca, .slice b nb cb] w fun r w' => r = .bool false ∧ w' = w := by
  refine ret_of 54 Try.func74 rfl rfl (by simp) ?_
  (repeat (first | refine pl_pure hT rfl rfl rfl ?_ | refine pl_nil ?_ | refine rn_seq ?_ | refine rn_plain ?_ | refine rn_block ?_ | refine rn_inBlock ?_ | refine rn_skip ?_ | refine rn_true rfl ?_ | refine rn_false rfl ?_ | refine rn_exit rfl ?_ | refine pl_not rfl rfl ?_))
  refine pl_yes rfl rfl rfl rfl rfl (by first | (simp only [cmpP]; omega) | (simp [cmpP]; done) | (simp [cmpP]; omega)) ?_
  (repeat (first | refine pl_pure hT rfl rfl rfl ?_ | refine pl_nil ?_ | refine rn_seq ?_ | refine rn_plain ?_ | refine rn_block ?_ | refine rn_inBlock ?_ | refine rn_skip ?_ | refine rn_true rfl ?_ | refine rn_false rfl ?_ | refine rn_exit rfl ?_ | refine pl_not rfl rfl ?_))
  exact rn_ret Try.func74 (.inl ⟨_, rfl, rfl⟩) ⟨rfl, rfl⟩
theorem addS_nil {w : World} {x na nb ca cb : Nat} {a b : Option Addr} (h : na = 0) (h' : nb = 0) :
    Ret Try.prog 74 [.pointer (some ⟨x, 0, none⟩), .slice a na ca, .slice b nb cb] w fun r w' => r = .bool true ∧ w' = w := by
  refine ret_of 54 Try.func74 rfl rfl (by simp) ?_
  (repeat (first | refine pl_pure hT rfl rfl rfl ?_ | refine pl_nil ?_ | refine rn_seq ?_ | refine rn_plain ?_ | refine rn_block ?_ | refine rn_inBlock ?_ | refine rn_skip ?_ | refine rn_true rfl ?_ | refine rn_false rfl ?_ | refine rn_exit rfl ?_ | refine pl_not rfl rfl ?_))
  refine pl_no rfl rfl rfl rfl rfl rfl (by first | (simp only [cmpP]; omega) | (simp [cmpP]; done) | (simp [cmpP]; omega)) ?_
  (repeat (first | refine pl_pure hT rfl rfl rfl ?_ | refine pl_nil ?_ | refine rn_seq ?_ | refine rn_plain ?_ | refine rn_block ?_ | refine rn_inBlock ?_ | refine rn_skip ?_ | refine rn_true rfl ?_ | refine rn_false rfl ?_ | refine rn_exit rfl ?_ | refine pl_not rfl rfl ?_))
  refine pl_yes rfl rfl rfl rfl rfl (by first | (simp only [cmpP]; omega) | (simp [cmpP]; done) | (simp [cmpP]; omega)) ?_
  (repeat (first | refine pl_pure hT rfl rfl rfl ?_ | refine pl_nil ?_ | refine rn_seq ?_ | refine rn_plain ?_ | refine rn_block ?_ | refine rn_inBlock ?_ | refine rn_skip ?_ | refine rn_true rfl ?_ | refine rn_false rfl ?_ | refine rn_exit rfl ?_ | refine pl_not rfl rfl ?_))
  exact rn_ret Try.func74 (.inl ⟨_, rfl, rfl⟩) ⟨rfl, rfl⟩

theorem addS_pos {w : World} {B x m : Nat} {M : List Nat} {V : List (Value × Value)} (h : St 135 180 w B x m M V) {g bb q n ca cb : Nat} {L : List Value} {e : TypeId} (hg : g ∉ M) (hbg : Blk w g L e) (hM : ∀ g' ∈ M, ∃ L e, Blk w g' L e) (hB : B ≤ w.heap.size) (hV : V.length ≤ 1000000) (hn : 0 < n) :
    Ret Try.prog 74 [.pointer (some ⟨x, 0, none⟩), .slice (some ⟨g, 0, none⟩) n ca, .slice (some ⟨bb, q, none⟩) n cb] w fun r w' => r = .bool true ∧ St 135 180 w' B x m (g :: M) (V ++ [(.slice (some ⟨g, 0, none⟩) n ca, .slice (some ⟨bb, q, none⟩) n cb)]) ∧ Tw B [x, m] [180] w w' := by
  obtain ⟨rv, hX, hO⟩ := h.blk
  obtain ⟨es, clock, hm, hkeys⟩ := h.map
  have hml : m < w.heap.size := (Array.getElem?_eq_some_iff.1 hm).1
  refine ret_of 54 Try.func74 rfl rfl (by simp) ?_
  (repeat (first | refine pl_pure hT rfl rfl rfl ?_ | refine pl_nil ?_ | refine rn_seq ?_ | refine rn_plain ?_ | refine rn_block ?_ | refine rn_inBlock ?_ | refine rn_skip ?_ | refine rn_true rfl ?_ | refine rn_false rfl ?_ | refine rn_exit rfl ?_ | refine pl_not rfl rfl ?_))
  refine pl_no rfl rfl rfl rfl rfl rfl (by first | (simp only [cmpP]; omega) | (simp [cmpP]; done) | (simp [cmpP]; omega)) ?_
  (repeat (first | refine pl_pure hT rfl rfl rfl ?_ | refine pl_nil ?_ | refine rn_seq ?_ | refine rn_plain ?_ | refine rn_block ?_ | refine rn_inBlock ?_ | refine rn_skip ?_ | refine rn_true rfl ?_ | refine rn_false rfl ?_ | refine rn_exit rfl ?_ | refine pl_not rfl rfl ?_))
  refine pl_no rfl rfl rfl rfl rfl rfl (by first | (simp only [cmpP]; omega) | (simp [cmpP]; done) | (simp [cmpP]; omega)) ?_
  (repeat (first | refine pl_pure hT rfl rfl rfl ?_ | refine pl_nil ?_ | refine rn_seq ?_ | refine rn_plain ?_ | refine rn_block ?_ | refine rn_inBlock ?_ | refine rn_skip ?_ | refine rn_true rfl ?_ | refine rn_false rfl ?_ | refine rn_exit rfl ?_ | refine pl_not rfl rfl ?_))
  refine rn_draw (fun w' => Keep [] w w') [8] hMix ?_
  have hS : Keep [] w w.drew := (Keep.refl _ _).drew
  generalize w.drew = w1 at *
  refine dr_pure 0 hT rfl (by decide +kernel) rfl rfl rfl ?_
  refine dr_any 1 (.pointer (some ⟨g, 0, none⟩)) rfl (by decide +kernel) rfl rfl (fun w => val_index (b := g) (q := 0) (sz := 12) 0 hT rfl rfl rfl rfl rfl hn w) ?_
  refine dr_pure 2 hT rfl (by decide +kernel) rfl rfl rfl ?_
  refine dr_any 3 (.pointer (some ⟨bb, q, none⟩)) rfl (by decide +kernel) rfl rfl (fun w => val_index (b := bb) (q := q) (sz := 12) 0 hT rfl rfl rfl rfl rfl hn w) ?_
  refine dr_pure 4 hT rfl (by decide +kernel) rfl rfl rfl ?_
  refine dr_pure 5 hT rfl (by decide +kernel) rfl rfl rfl ?_
  refine dr_any 6 _ rfl (by decide +kernel) rfl rfl (fun w => val_build _ rfl rfl (built_placeS _ _ _) w) ?_
  refine dr_op 7 rfl (by decide +kernel) rfl rfl (opTo_allocN _ rfl zero_placeS ?_)
  intro w2 c hc hs2 hk2 hc2
  refine ⟨fun _ => hS.tr hk2, ?_⟩
  refine dr_op 8 rfl (by decide +kernel) rfl rfl (opTo_storeN _ rfl rfl rfl rfl (by kernel_rfl) hc2 (by simp) (by intro u hu; simp at hu; rcases hu with rfl | rfl | rfl <;> rfl) ?_)
  intro w3 hs3 hk3 hc3
  refine ⟨fun h => absurd h (by simp), ?_⟩
  refine dr_done (by decide +kernel) ?_
  rw [splice_whole (by rfl)] at hc3
  have hkw3 : Keep [] w w3 := (hS.tr hk2).trB hk3 (by have := hS.size; omega)
  clear hk2 hk3 hc2 hS
  (repeat (first | refine pl_pure hT rfl rfl rfl ?_ | refine pl_nil ?_ | refine rn_seq ?_ | refine rn_plain ?_ | refine rn_block ?_ | refine rn_inBlock ?_ | refine rn_skip ?_ | refine rn_true rfl ?_ | refine rn_false rfl ?_ | refine rn_exit rfl ?_ | refine pl_not rfl rfl ?_))
  refine rn_draw (fun w' => Keep [] w3 w') [10] hMix ?_
  have hS : Keep [] w3 w3.drew := (Keep.refl _ _).drew
  generalize w3.drew = w4 at *
  refine dr_pure 0 hT rfl (by decide +kernel) rfl rfl rfl ?_
  refine dr_pure 1 hT rfl (by decide +kernel) rfl rfl rfl ?_
  refine dr_pure 2 hT rfl (by decide +kernel) rfl rfl rfl ?_
  refine dr_val 3 (.map (some m)) rfl (by decide +kernel) rfl rfl (fun w9 hS9 => val_load1 hT rfl rfl rfl (((hkw3.tr hS9).blk hX (by simp)).cell rfl)) hS ?_
  refine dr_val 4 _ rfl (by decide +kernel) rfl rfl (fun w9 hS9 => val_load [.pointer (some ⟨g, 0, none⟩), .pointer (some ⟨bb, q, none⟩), .int .i64 (n : Nat)] hT rfl rfl rfl ((hS9.blk hc3 (by simp)).range (by rfl))) hS ?_
  have hM9 : ∀ w9, Keep [] w3 w9 → ∀ g' ∈ M, ∃ L e, Blk w9 g' L e := fun w9 hS9 g' hg' => by
    obtain ⟨L', e', hb'⟩ := hM g' hg'
    exact ⟨L', e', (hkw3.tr hS9).blk hb' (by simp)⟩
  refine dr_val 5 _ rfl (by decide +kernel) rfl rfl (fun w9 hS9 => val_lookupMiss (kt := 178) (M := M) rfl rfl rfl (by decide +kernel) (((hkw3.tr hS9).block m hml (by simp)).trans hm) hkeys ((hkw3.tr hS9).blk hbg (by simp)) (hM9 w9 hS9) hg) hS ?_
  refine dr_pure 6 hT rfl (by decide +kernel) rfl rfl rfl ?_
  refine dr_pure 7 hT rfl (by decide +kernel) rfl rfl rfl ?_
  refine dr_pure 8 hT rfl (by decide +kernel) rfl rfl rfl ?_
  refine dr_op 9 rfl (by decide +kernel) rfl rfl (opTo_allocN [] rfl (by kernel_rfl) ?_)
  intro w5 d hd hs5 hk5 hd5
  refine ⟨fun _ => hS.tr hk5, ?_⟩
  refine dr_op 10 rfl (by decide +kernel) rfl rfl (opTo_storeN [] rfl rfl rfl rfl (by kernel_rfl) hd5 (by simp) (by simp) ?_)
  intro w6 hs6 hk6 hd6
  refine ⟨fun h => absurd h (by simp), ?_⟩
  refine dr_pure 11 hT rfl (by decide +kernel) rfl rfl rfl ?_
  refine dr_done (by decide +kernel) ?_
  have hk36 : Keep [] w3 w6 := (hS.tr hk5).trB hk6 (by have := hS.size; omega)
  clear hS hk5 hk6 hd5 hd6
  (repeat (first | refine pl_pure hT rfl rfl rfl ?_ | refine pl_nil ?_ | refine rn_seq ?_ | refine rn_plain ?_ | refine rn_block ?_ | refine rn_inBlock ?_ | refine rn_skip ?_ | refine rn_true rfl ?_ | refine rn_false rfl ?_ | refine rn_exit rfl ?_ | refine pl_not rfl rfl ?_))
  refine rn_draw (fun w' => Keep [] w6 w') [6] hMix ?_
  have hS : Keep [] w6 w6.drew := (Keep.refl _ _).drew
  generalize w6.drew = w7 at *
  refine dr_pure 0 hT rfl (by decide +kernel) rfl rfl rfl ?_
  refine dr_pure 1 hT rfl (by decide +kernel) rfl rfl rfl ?_
  refine dr_pure 2 hT rfl (by decide +kernel) rfl rfl rfl ?_
  refine dr_val 3 (.map (some m)) rfl (by decide +kernel) rfl rfl (fun w9 hS9 => val_load1 hT rfl rfl rfl ((((hkw3.tr hk36).tr hS9).blk hX (by simp)).cell rfl)) hS ?_
  refine dr_val 4 _ rfl (by decide +kernel) rfl rfl (fun w9 hS9 => val_load [.pointer (some ⟨g, 0, none⟩), .pointer (some ⟨bb, q, none⟩), .int .i64 (n : Nat)] hT rfl rfl rfl (((hk36.tr hS9).blk hc3 (by simp)).range (by rfl))) hS ?_
  refine dr_any 5 _ rfl (by decide +kernel) rfl rfl (fun w => val_build [] rfl rfl (by kernel_rfl) w) ?_
  have hkw7 : Keep [] w w7 := (hkw3.tr hk36).tr hS
  refine dr_op 6 rfl (by decide +kernel) rfl rfl (opTo_updateMiss (kt := 178) (M := M) rfl rfl rfl rfl (by decide +kernel) ((hkw7.block m hml (by simp)).trans hm) hkeys (hkw7.blk hbg (by simp)) (hM9 w7 (hk36.tr hS)) hg ?_)
  intro w8 hs8 hk8 hmap8
  refine ⟨fun h => absurd h (by simp), ?_⟩
  refine dr_done (by decide +kernel) ?_
  have hX7 := hkw7.blk hX (by simp)
  have hm7 := (hkw7.block m hml (by simp)).trans hm
  have hX8 := hk8.blk hX7 (by simpa using not_map hX7 hm7)
  have ho7 := hO.keep hkw7 (by simp)
  have ho8 := ho7.keep hk8 (fun k hk => by
    rcases ho7.2 with ⟨h0, _⟩ | ⟨g', cap', cur', h0, _, hb', _⟩
    · rw [h0] at hk; cases hk
    · rw [h0] at hk; simp [Value.ownBlock] at hk; subst hk; simpa using not_map hb' hm7)
  have ht8 : Tw B [x, m] [180] w w8 := (Tw.of hkw7).trans (Tw.of1 hk8 h.bm (.inl (by simp)))
  (repeat (first | refine pl_pure hT rfl rfl rfl ?_ | refine pl_nil ?_ | refine rn_seq ?_ | refine rn_plain ?_ | refine rn_block ?_ | refine rn_inBlock ?_ | refine rn_skip ?_ | refine rn_true rfl ?_ | refine rn_false rfl ?_ | refine rn_exit rfl ?_ | refine pl_not rfl rfl ?_))
  refine pl_val _ rfl rfl (val_load1 hT rfl rfl rfl (hX8.cell rfl)) ?_
  (repeat (first | refine pl_pure hT rfl rfl rfl ?_ | refine pl_nil ?_ | refine rn_seq ?_ | refine rn_plain ?_ | refine rn_block ?_ | refine rn_inBlock ?_ | refine rn_skip ?_ | refine rn_true rfl ?_ | refine rn_false rfl ?_ | refine rn_exit rfl ?_ | refine pl_not rfl rfl ?_))
  refine pl_val _ rfl rfl (val_build _ rfl rfl (built_twinsS _ _ _ _ _ _) w8) ?_
  refine pl_op rfl rfl (opTo_sliceN _ _ rfl rfl (slice_twinsS _ _) ?_)
  intro w9 y9 hy9 hs9 hk9 hY9
  have ho9 := ho8.keep hk9 (by simp)
  refine pl_op rfl rfl (opTo_app B 180 2 48 (V.flatMap fun p => [p.1, p.2]) [.slice (some ⟨g, 0, none⟩) n ca, .slice (some ⟨bb, q, none⟩) n cb] rfl rfl rfl (by decide +kernel) ho9 (hY9.range (by rfl)) rfl (by intro u hu; simp at hu; rcases hu with rfl | rfl <;> rfl) (by decide) (by unfold maxLen; omega) (by omega) (by have := ht8.size; have := hk9.size; omega) ?_)
  intro g10 cap10 w10 ho10 hor10
  have hk910 : Tw B [x, m] [180] w9 w10 ∧ (∀ k L e, Blk w9 k L e → e ≠ 180 → Blk w10 k L e) ∧ (∀ es c, w9.heap[m]? = some (.map es c) → w10.heap[m]? = some (.map es c)) := by
    rcases hor10 with ⟨h1, _, h2⟩ | ⟨_, h2, _⟩
    · rcases ho9.2 with ⟨h0, _⟩ | ⟨g', cap', cur', h0, hB', hb', _⟩
      · rw [h0] at h1; cases h1
      · rw [h0] at h1
        simp [Value.ownBlock] at h1
        subst h1
        exact ⟨Tw.of1 h2 hB' (.inr ⟨_, _, hb', by simp⟩), fun k L e hb he => h2.blk hb (by simpa using hb.ne hb' he), fun es c hmm => (h2.block m (Array.getElem?_eq_some_iff.1 hmm).1 (by simp; exact fun e => not_map hb' hmm e.symm)).trans hmm⟩
    · exact ⟨Tw.of h2, fun k L e hb _ => h2.blk hb (by simp), fun es c hmm => (h2.block m (Array.getElem?_eq_some_iff.1 hmm).1 (by simp)).trans hmm⟩
  obtain ⟨ht10, hb10, hm10⟩ := hk910
  have hX10 := hb10 _ _ _ (hk9.blk hX8 (by simp)) (by decide)
  obtain ⟨es', clock', hmm8, hkk8⟩ := hmap8
  have hmm9 := (hk9.block m (Array.getElem?_eq_some_iff.1 hmm8).1 (by simp)).trans hmm8
  have hmm10 := hm10 _ _ hmm9
  (repeat (first | refine pl_pure hT rfl rfl rfl ?_ | refine pl_nil ?_ | refine rn_seq ?_ | refine rn_plain ?_ | refine rn_block ?_ | refine rn_inBlock ?_ | refine rn_skip ?_ | refine rn_true rfl ?_ | refine rn_false rfl ?_ | refine rn_exit rfl ?_ | refine pl_not rfl rfl ?_))
  refine pl_op rfl rfl (opTo_storeN [.slice (some ⟨g10, 0, none⟩) (V.length + 1) cap10] rfl rfl rfl rfl (by kernel_rfl) hX10 (by simp) (by simp; rfl) ?_)
  intro w11 hs11 hk11 hX11
  have hx10 : ∀ k, (Value.slice (some ⟨g10, 0, none⟩) (V.length + 1) cap10).ownBlock = some k → k ∉ [x] := fun k hk => by
    simp [Value.ownBlock] at hk
    subst hk
    rcases ho10.2 with ⟨h0, _⟩ | ⟨g', cap', cur', h0, _, hb', _⟩
    · cases h0
    · injection h0 with h0; injection h0 with h0; injection h0 with h0; subst h0; simpa using (hb'.ne hX10 (by decide))
  have ho11 := ho10.keep hk11 hx10
  have hmm11 := (hk11.block m (Array.getElem?_eq_some_iff.1 hmm10).1 (by simp; exact fun e => not_map hX10 hmm10 e.symm)).trans hmm10
  have ht11 : Tw B [x, m] [180] w w11 := ((ht8.trans (Tw.of hk9)).trans ht10).trans (Tw.of1 hk11 h.bx (.inl (by simp)))
  (repeat (first | refine pl_pure hT rfl rfl rfl ?_ | refine pl_nil ?_ | refine rn_seq ?_ | refine rn_plain ?_ | refine rn_block ?_ | refine rn_inBlock ?_ | refine rn_skip ?_ | refine rn_true rfl ?_ | refine rn_false rfl ?_ | refine rn_exit rfl ?_ | refine pl_not rfl rfl ?_))
  refine rn_ret Try.func74 (.inl ⟨_, rfl, rfl⟩) ⟨rfl, ⟨h.bx, h.bm, ⟨_, hX11, ?_⟩, ⟨es', clock', hmm11, hkk8⟩⟩, ht11⟩
  have e1 : (V ++ [(Value.slice (some ⟨g, 0, none⟩) n ca, Value.slice (some ⟨bb, q, none⟩) n cb)]).length = V.length + 1 := by simp
  have e2 : ((V ++ [(Value.slice (some ⟨g, 0, none⟩) n ca, Value.slice (some ⟨bb, q, none⟩) n cb)]).flatMap fun p => [p.1, p.2]) = (V.flatMap fun p => [p.1, p.2]) ++ [.slice (some ⟨g, 0, none⟩) n ca, .slice (some ⟨bb, q, none⟩) n cb] := by simp
  rw [e1, e2]
  exact ho11
end E
end Go.Proofs.Ytpbdjpoohpocfab
