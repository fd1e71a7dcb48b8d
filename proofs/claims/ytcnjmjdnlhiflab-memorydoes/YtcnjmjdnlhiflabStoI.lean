/- The contract of Commit. -/
import Derived.Test.YtcnjmjdnlhiflabStoH
namespace Go.Proofs.Ytcnjmjdnlhiflab
set_option maxRecDepth 20000
namespace E
open Go.Proofs

/-- What a commit plans: the next state, what is taken, the deeds. -/
structure Plan where
  N : List Int
  K : List Bool
  D : List Deed

def layP (x : Plan) (p : Pg) : Plan := ⟨x.N.set (3 + p.1.toNat) (freeK x.K : Nat), takeK x.K (freeK x.K : Nat), x.D ++ [some (((freeK x.K : Nat) : Int), p.2)]⟩
def layT (x : Plan) (j : Nat) : Plan := ⟨x.N.set (1 + j) (freeK x.K : Nat), takeK x.K (freeK x.K : Nat), x.D ++ [some (((freeK x.K : Nat) : Int), partW x.N j)]⟩
def planP (S : List Int) (ps : List Pg) : Plan := ps.foldl layP ⟨nextN S, takenK S, []⟩
def planT (S : List Int) (ps : List Pg) : Plan := layT (layT (planP S ps) 0) 1
def rootD (x : Plan) : Int × List Int := ((x.N.getD 0 0).tmod 2, rootW x.N)
def deedsOf (S : List Int) (ps : List Pg) : List Deed := (planT S ps).D ++ [none] ++ [some (rootD (planT S ps))] ++ [none]

theorem planP_snoc (S : List Int) {ps : List Pg} {j : Nat} {p : Pg} (h : ps[j]? = some p) : planP S (ps.take (j + 1)) = layP (planP S (ps.take j)) p := by
  have hlt : j < ps.length := (List.getElem?_eq_some_iff.1 h).1
  have hj : ps[j] = p := (List.getElem?_eq_some_iff.1 h).2
  rw [List.take_succ_eq_append_getElem hlt, hj, planP, List.foldl_append]
  rfl
theorem foldl_len (ps : List Pg) (x : Plan) : (ps.foldl layP x).D.length = x.D.length + ps.length := by
  induction ps generalizing x with
  | nil => rfl
  | cons p r ih =>
    rw [List.foldl_cons, ih]
    simp [layP]
    omega
theorem planP_len (S : List Int) (ps : List Pg) : (planP S ps).D.length = ps.length := by rw [planP, foldl_len]; simp
theorem deedsOf_len (S : List Int) (ps : List Pg) : (deedsOf S ps).length = ps.length + 5 := by simp [deedsOf, planT, layT, planP_len]

theorem chkFrom_ok {ps : List Pg} : ∀ {done : List Int}, chkFrom done ps = 0 → ∀ p ∈ ps, hasP p.1 = true := by
  induction ps with
  | nil => simp
  | cons p r ih =>
    intro done h q hq
    unfold chkFrom at h
    split at h
    · cases h
    · rename_i h1
      split at h
      · cases h
      · rcases List.mem_cons.1 hq with rfl | hq
        · simpa using h1
        · exact ih h q hq

section
variable {B Bp : Nat} {w : World} {s d : Nat} {pv : Value} {ps : List Pg} {S : List Int} {L : List Wr} {wv : Value}

theorem commit_bad (hp : Pgs Bp w pv ps) (hlen : ps.length < 1000) (may : Int) (hc : chk ps ≠ 0) :
    Ret Try.prog 12 [.pointer (some ⟨s, 0, none⟩), pv, .int .i64 may] w fun v w' => v = .tuple #[.bool false, .int .i64 (chk ps)] ∧ Keep [] w w' := by
  refine ret_of 72 Try.func12 rfl rfl (by simp) ?_
  repeat (first | refine pl_pure hT rfl rfl rfl ?_ | refine pl_nil ?_ | refine rn_seq ?_ | refine rn_plain ?_ | refine rn_block ?_ | refine rn_inBlock ?_ | refine rn_skip ?_ | refine rn_true rfl ?_ | refine rn_false rfl ?_ | refine rn_exit rfl ?_ | refine pl_not rfl rfl ?_)
  refine pl_op rfl rfl (opTo_call rfl rfl rfl rfl (by decide +kernel) ((check_ret hp (by omega)).mono ?_))
  rintro v w1 ⟨rfl, hk1⟩
  repeat (first | refine pl_pure hT rfl rfl rfl ?_ | refine pl_nil ?_ | refine rn_seq ?_ | refine rn_plain ?_ | refine rn_block ?_ | refine rn_inBlock ?_ | refine rn_skip ?_ | refine rn_true rfl ?_ | refine rn_false rfl ?_ | refine rn_exit rfl ?_ | refine pl_not rfl rfl ?_)
  refine pl_val (.bool true) rfl rfl (val_int .i64 _ 0 _ rfl rfl rfl (by simp [intOp, hc]) w1) ?_
  repeat (first | refine pl_pure hT rfl rfl rfl ?_ | refine pl_nil ?_ | refine rn_seq ?_ | refine rn_plain ?_ | refine rn_block ?_ | refine rn_inBlock ?_ | refine rn_skip ?_ | refine rn_true rfl ?_ | refine rn_false rfl ?_ | refine rn_exit rfl ?_ | refine pl_not rfl rfl ?_)
  exact rn_ret Try.func12 (.inr (.inr (.inr (.inr ⟨_, _, _, _, rfl, rfl, rfl, rfl⟩)))) ⟨rfl, hk1⟩

theorem commit_ret (hs : StoreV w s d) (hd : DiskV B w d S L wv) (hp : Pgs Bp w pv ps) (hlen : ps.length < 900) (hL : L.length < 900) (hg0 : 0 ≤ genS S) (hg1 : genS S < 1000000) (may : Int) (hc : chk ps = 0)
    (m : Nat) (hm : m = if may < 0 ∨ may ≥ (ps.length + 5 : Nat) then ps.length + 5 else may.toNat) :
    Ret Try.prog 12 [.pointer (some ⟨s, 0, none⟩), pv, .int .i64 may] w fun v w' => v = .tuple #[.bool (decide (may < 0 ∨ may ≥ (ps.length + 5 : Nat))), .int .i64 0] ∧
      ∃ wv', DiskV B w' d (doDeeds ((deedsOf S ps).take m) (S, L)).1 (doDeeds ((deedsOf S ps).take m) (S, L)).2 wv' ∧ Keep (fpD d wv) w w' ∧ ∀ k ∈ fpD d wv', k ∈ fpD d wv ∨ w.heap.size ≤ k := by
  refine ret_of 72 Try.func12 rfl rfl (by simp) ?_
  repeat (first | refine pl_pure hT rfl rfl rfl ?_ | refine pl_nil ?_ | refine rn_seq ?_ | refine rn_plain ?_ | refine rn_block ?_ | refine rn_inBlock ?_ | refine rn_skip ?_ | refine rn_true rfl ?_ | refine rn_false rfl ?_ | refine rn_exit rfl ?_ | refine pl_not rfl rfl ?_)
  refine pl_op rfl rfl (opTo_call rfl rfl rfl rfl (by decide +kernel) ((check_ret hp (by omega)).mono ?_))
  rintro v w1 ⟨rfl, hk1⟩
  rw [hc]
  repeat (first | refine pl_pure hT rfl rfl rfl ?_ | refine pl_nil ?_ | refine rn_seq ?_ | refine rn_plain ?_ | refine rn_block ?_ | refine rn_inBlock ?_ | refine rn_skip ?_ | refine rn_true rfl ?_ | refine rn_false rfl ?_ | refine rn_exit rfl ?_ | refine pl_not rfl rfl ?_)
  refine pl_val (.bool false) rfl rfl (val_int .i64 _ 0 _ rfl rfl rfl rfl w1) ?_
  repeat (first | refine pl_pure hT rfl rfl rfl ?_ | refine pl_nil ?_ | refine rn_seq ?_ | refine rn_plain ?_ | refine rn_block ?_ | refine rn_inBlock ?_ | refine rn_skip ?_ | refine rn_true rfl ?_ | refine rn_false rfl ?_ | refine rn_exit rfl ?_ | refine pl_not rfl rfl ?_)
  have hs1 : StoreV w1 s d := hk1.blk hs (by simp)
  refine pl_op rfl rfl (opTo_call rfl rfl rfl rfl (by decide +kernel) ((begin_ret hs1 (hd.keep hk1 (by simp)) hg0 hg1).mono ?_))
  rintro v w2 ⟨c, rfl, h2, hk2⟩
  have hkw2 := hk1.tr0 hk2
  have hB1 : w.heap.size ≤ w1.heap.size := hk1.size
  generalize w1.heap.size = C at *
  clear hs1 hk1 hk2
  repeat (first | refine pl_pure hT rfl rfl rfl ?_ | refine pl_nil ?_ | refine rn_seq ?_ | refine rn_plain ?_ | refine rn_block ?_ | refine rn_inBlock ?_ | refine rn_skip ?_ | refine rn_true rfl ?_ | refine rn_false rfl ?_ | refine rn_exit rfl ?_ | refine pl_not rfl rfl ?_)
  obtain ⟨pa, pcap, hpv, _⟩ := hp.ex
  refine pl_val (.int .i64 ps.length) rfl rfl (val_pure hT (by rw [hpv]; rfl) w2) ?_
  repeat (first | refine pl_pure hT rfl rfl rfl ?_ | refine pl_nil ?_ | refine rn_seq ?_ | refine rn_plain ?_ | refine rn_block ?_ | refine rn_inBlock ?_ | refine rn_skip ?_ | refine rn_true rfl ?_ | refine rn_false rfl ?_ | refine rn_exit rfl ?_ | refine pl_not rfl rfl ?_)
  refine rn_ind (fun q σ w' => ∃ j dv fvs, q = ps.length - j ∧ j ≤ ps.length ∧ σ = [(2, .int .i64 may), (9, .pointer (some ⟨c, 0, none⟩)), (20, pv), (21, .int .i64 ps.length), (22, .int .i64 (j : Nat))] ∧
      Keep [] w w' ∧ ComV C w' c s (planP S (ps.take j)).N (planP S (ps.take j)).K dv fvs (planP S (ps.take j)).D)
    (ps.length - 0) _ ?_ ⟨0, _, _, rfl, Nat.zero_le _, rfl, hkw2, h2⟩ ?_
  · exact ⟨rfl, rfl, rfl, rfl, rfl, trivial⟩
  clear h2 hkw2
  rintro q σ w3 ih ⟨j, dv, fvs, hq, hj, rfl, hk3, h3⟩
  repeat (first | refine pl_pure hT rfl rfl rfl ?_ | refine pl_nil ?_ | refine rn_seq ?_ | refine rn_plain ?_ | refine rn_block ?_ | refine rn_inBlock ?_ | refine rn_skip ?_ | refine rn_true rfl ?_ | refine rn_false rfl ?_ | refine rn_exit rfl ?_ | refine pl_not rfl rfl ?_)
  rcases Nat.lt_or_ge j ps.length with hlt | hge
  · refine pl_val (.bool true) rfl rfl (val_int .i64 _ _ _ rfl rfl rfl (by simp [intOp]; omega) w3) ?_
    repeat (first | refine pl_pure hT rfl rfl rfl ?_ | refine pl_nil ?_ | refine rn_seq ?_ | refine rn_plain ?_ | refine rn_block ?_ | refine rn_inBlock ?_ | refine rn_skip ?_ | refine rn_true rfl ?_ | refine rn_false rfl ?_ | refine rn_exit rfl ?_ | refine pl_not rfl rfl ?_)
    obtain ⟨p, hpj⟩ : ∃ p, ps[j]? = some p := ⟨_, List.getElem?_eq_getElem hlt⟩
    have hpm := List.mem_of_getElem? hpj
    have h8 := hp.wf p hpm
    have hhas := chkFrom_ok hc p hpm
    have hi : 0 ≤ p.1 ∧ p.1 < 14 := by simpa [hasP] using hhas
    obtain ⟨b, o, cap, hv', _, hr⟩ := (hp.keep hk3 (by simp)).at hpj
    refine pl_val _ rfl rfl (val_index j hT rfl (by rw [hv']; rfl) rfl rfl rfl hlt w3) ?_
    refine pl_val (.agg (pcell p).toArray) rfl rfl (val_load _ hT rfl rfl (by rw [pcell_length h8]; rfl) hr) ?_
    refine pl_op rfl rfl (opTo_alloc _ rfl zero_page ?_)
    have hk4 := hk3.alloc (.cells (pcell (0, List.replicate 8 0)).toArray 43)
    have hx4 := Blk.new w3 (pcell (0, List.replicate 8 0)) 43
    have hk34 : Keep [] w3 (w3.alloc (.cells (pcell (0, List.replicate 8 0)).toArray 43)) := (Keep.refl _ _).alloc _
    have hsz := hk3.size
    generalize (w3.alloc (.cells (pcell (0, List.replicate 8 0)).toArray 43)) = w4 at *
    repeat (first | refine pl_pure hT rfl rfl rfl ?_ | refine pl_nil ?_ | refine rn_seq ?_ | refine rn_plain ?_ | refine rn_block ?_ | refine rn_inBlock ?_ | refine rn_skip ?_ | refine rn_true rfl ?_ | refine rn_false rfl ?_ | refine rn_exit rfl ?_ | refine pl_not rfl rfl ?_)
    refine pl_op rfl rfl (opTo_store _ rfl rfl rfl rfl (by rw [pcell_length h8]; decide +kernel) hx4 (by rw [pcell_length h8]; decide) (pcell_one _) ?_)
    rw [splice_all (by rw [pcell_length h8]; rfl)]
    have hk5 := hk4.setRow w3.heap.size (pcell p).toArray (.inr hsz)
    have hx5 := hx4.set (pcell p)
    have hk35 := hk34.setRow w3.heap.size (pcell p).toArray (.inr (Nat.le_refl _))
    have h5 := h3.keep0 hk35
    generalize (w4.setRow w3.heap.size (pcell p).toArray) = w5 at *
    generalize w3.heap.size = x at hx5 ⊢
    clear hk4 hx4 hk34 hk35 h3 hk3
    repeat (first | refine pl_pure hT rfl rfl rfl ?_ | refine pl_nil ?_ | refine rn_seq ?_ | refine rn_plain ?_ | refine rn_block ?_ | refine rn_inBlock ?_ | refine rn_skip ?_ | refine rn_true rfl ?_ | refine rn_false rfl ?_ | refine rn_exit rfl ?_ | refine pl_not rfl rfl ?_)
    have hS0 : Blk w5.drew x (pcell p) 43 := hx5
    refine rn_draw (fun w' => Blk w' x (pcell p) 43) [11] hMix ?_
    refine dr_pure 0 hT rfl (by decide +kernel) rfl rfl rfl ?_
    refine dr_pure 1 hT rfl (by decide +kernel) rfl rfl rfl ?_
    refine dr_val 2 (.int .i64 p.1) rfl (by decide +kernel) rfl rfl (fun w' hk => val_load1 hT rfl rfl rfl (hk.cell rfl)) hS0 ?_
    refine dr_pure 3 hT rfl (by decide +kernel) rfl rfl rfl ?_
    refine dr_pure 4 hT rfl (by decide +kernel) rfl rfl rfl ?_
    refine dr_val 5 (.agg (ints p.2).toArray) rfl (by decide +kernel) rfl rfl (fun w' hk => val_load _ hT rfl rfl (by rw [ints_length, h8]; rfl) (hk.range (by simp [pcell]))) hS0 ?_
    refine dr_pure 7 hT rfl (by decide +kernel) rfl rfl rfl ?_
    refine dr_pure 8 hT rfl (by decide +kernel) rfl rfl rfl ?_
    refine dr_pure 9 hT rfl (by decide +kernel) rfl rfl rfl ?_
    have h6 := h5.keep0 ((Keep.refl [] w5).drew)
    have hDl : (planP S (ps.take j)).D.length < 1000 := by rw [planP_len, List.length_take]; omega
    refine dr_op 6 rfl (by decide +kernel) rfl rfl (opTo_call rfl rfl rfl rfl (by decide +kernel) ((lay_ret h6 hDl h8).mono ?_))
    rintro v w7 ⟨rfl, ⟨dv7, fvs7, h7⟩, ht7⟩
    refine ⟨fun _ => ht7.typ _ _ _ hS0 (by decide), ?_⟩
    refine dr_any 10 _ rfl (by decide +kernel) rfl rfl (fun w' => val_indexArr p.1.toNat hT rfl rfl rfl rfl (by omega) (by omega) w') ?_
    refine dr_op 11 rfl (by decide +kernel) rfl rfl (opTo_store [.int .i64 (freeK (planP S (ps.take j)).K : Nat)] rfl rfl rfl rfl (by kernel_rfl) h7.blk (by rw [ccells_length h7.nlen h7.klen]; simp; omega) (by simp; rfl) ⟨fun hn => absurd (by simp) hn, ?_⟩)
    have h17 := h7.nlen
    rw [show splice (ccells s (planP S (ps.take j)).N (takeK (planP S (ps.take j)).K (freeK (planP S (ps.take j)).K : Nat)) dv7) (0 + 1 + 3 + p.1.toNat * 1) [.int .i64 (freeK (planP S (ps.take j)).K : Nat)] =
        ccells s (planP S (ps.take (j + 1))).N (planP S (ps.take (j + 1))).K dv7 by
      rw [planP_snoc S hpj, show 0 + 1 + 3 + p.1.toNat * 1 = 1 + (3 + p.1.toNat) by omega, ccells_setN _ _ (by omega)]
      rfl]
    obtain ⟨h8', ht8, _⟩ := h7.put (planP S (ps.take (j + 1))).N (planP S (ps.take (j + 1))).K (by rw [planP_snoc S hpj]; simp [layP, h17]) (by rw [planP_snoc S hpj]; exact h7.klen)
    refine dr_done (by decide +kernel) ?_
    have hk8 := ht8.keep (ht7.keep (hk5.drew) hB1) hB1
    generalize (w7.setRow c (ccells s (planP S (ps.take (j + 1))).N (planP S (ps.take (j + 1))).K dv7).toArray) = w8 at *
    repeat (first | refine pl_pure hT rfl rfl rfl ?_ | refine pl_nil ?_ | refine rn_seq ?_ | refine rn_plain ?_ | refine rn_block ?_ | refine rn_inBlock ?_ | refine rn_skip ?_ | refine rn_true rfl ?_ | refine rn_false rfl ?_ | refine rn_exit rfl ?_ | refine pl_not rfl rfl ?_)
    refine pl_val (.int .i64 ((j + 1 : Nat) : Int)) rfl rfl (val_int .i64 j 1 _ rfl rfl rfl (by simp only [intOp]; rw [wrap_i64 (by omega) (by omega)]; rfl) w8) ?_
    repeat (first | refine pl_pure hT rfl rfl rfl ?_ | refine pl_nil ?_ | refine rn_seq ?_ | refine rn_plain ?_ | refine rn_block ?_ | refine rn_inBlock ?_ | refine rn_skip ?_ | refine rn_true rfl ?_ | refine rn_false rfl ?_ | refine rn_exit rfl ?_ | refine pl_not rfl rfl ?_)
    refine rn_sub ?_ (ih (ps.length - (j + 1)) _ w8 (by omega) ⟨j + 1, dv7, fvs7, rfl, hlt, rfl, hk8, ?_⟩)
    · exact ⟨rfl, rfl, rfl, rfl, rfl, trivial⟩
    · rw [show (planP S (ps.take (j + 1))).D = (planP S (ps.take j)).D ++ [some (((freeK (planP S (ps.take j)).K : Nat) : Int), p.2)] by rw [planP_snoc S hpj]; rfl]
      exact h8'
  refine pl_val (.bool false) rfl rfl (val_int .i64 _ _ _ rfl rfl rfl (by simp [intOp]; omega) w3) ?_
  clear ih
  rw [List.take_of_length_le hge] at h3
  repeat (first | refine pl_pure hT rfl rfl rfl ?_ | refine pl_nil ?_ | refine rn_seq ?_ | refine rn_plain ?_ | refine rn_block ?_ | refine rn_inBlock ?_ | refine rn_skip ?_ | refine rn_true rfl ?_ | refine rn_false rfl ?_ | refine rn_exit rfl ?_ | refine pl_not rfl rfl ?_)
  refine rn_ind (fun q σ w' => ∃ j dv fvs X, q = 2 - j ∧ j ≤ 2 ∧ σ = [(2, .int .i64 may), (9, .pointer (some ⟨c, 0, none⟩)), (38, .int .i64 (j : Nat))] ∧
      Keep [] w w' ∧ ComV C w' c s X.N X.K dv fvs X.D ∧ X = ([0, 1].take j).foldl layT (planP S ps))
    (2 - 0) _ ?_ ⟨0, _, _, planP S ps, rfl, Nat.zero_le _, rfl, hk3, h3, rfl⟩ ?_
  · exact ⟨rfl, rfl, rfl, trivial⟩
  clear h3 hk3
  rintro q σ w3 ih ⟨j, dv, fvs, X, hq, hj, rfl, hk3, h3, hX⟩
  have hDX : X.D.length = ps.length + j := by
    have : j = 0 ∨ j = 1 ∨ j = 2 := by omega
    rcases this with rfl | rfl | rfl <;> rw [hX] <;> simp [layT, planP_len]
  repeat (first | refine pl_pure hT rfl rfl rfl ?_ | refine pl_nil ?_ | refine rn_seq ?_ | refine rn_plain ?_ | refine rn_block ?_ | refine rn_inBlock ?_ | refine rn_skip ?_ | refine rn_true rfl ?_ | refine rn_false rfl ?_ | refine rn_exit rfl ?_ | refine pl_not rfl rfl ?_)
  rcases Nat.lt_or_ge j 2 with hlt | hge
  · refine pl_val (.bool true) rfl rfl (val_int .i64 _ _ _ rfl rfl rfl (by simp [intOp]; omega) w3) ?_
    repeat (first | refine pl_pure hT rfl rfl rfl ?_ | refine pl_nil ?_ | refine rn_seq ?_ | refine rn_plain ?_ | refine rn_block ?_ | refine rn_inBlock ?_ | refine rn_skip ?_ | refine rn_true rfl ?_ | refine rn_false rfl ?_ | refine rn_exit rfl ?_ | refine pl_not rfl rfl ?_)
    refine rn_draw (fun w' => True) [] hMix ?_
    refine dr_pure 0 hT rfl (by decide +kernel) rfl rfl rfl ?_
    refine dr_pure 1 hT rfl (by decide +kernel) rfl rfl rfl ?_
    refine dr_pure 2 hT rfl (by decide +kernel) rfl rfl rfl ?_
    refine dr_pure 3 hT rfl (by decide +kernel) rfl rfl rfl ?_
    refine dr_pure 4 hT rfl (by decide +kernel) rfl rfl rfl ?_
    refine dr_pure 5 hT rfl (by decide +kernel) rfl rfl rfl ?_
    refine dr_pure 6 hT rfl (by decide +kernel) rfl rfl rfl ?_
    refine dr_pure 9 hT rfl (by decide +kernel) rfl rfl rfl ?_
    refine dr_pure 10 hT rfl (by decide +kernel) rfl rfl rfl ?_
    refine dr_pure 11 hT rfl (by decide +kernel) rfl rfl rfl ?_
    have h4 := h3.keep0 ((Keep.refl [] w3).drew)
    refine dr_op 7 rfl (by decide +kernel) rfl rfl (opTo_call rfl rfl rfl rfl (by decide +kernel) ((partWords_ret h4 j hlt).mono ?_))
    rintro v w5 ⟨rfl, hk5⟩
    refine ⟨fun _ => trivial, ?_⟩
    have h5 := h4.keep0 hk5
    refine dr_op 8 rfl (by decide +kernel) rfl rfl (opTo_call rfl rfl rfl rfl (by decide +kernel) ((lay_ret h5 (by omega) (partW_length h3.nlen j)).mono ?_))
    rintro v w7 ⟨rfl, ⟨dv7, fvs7, h7⟩, ht7⟩
    refine ⟨fun _ => trivial, ?_⟩
    have h17 := h7.nlen
    refine dr_any 12 _ rfl (by decide +kernel) rfl rfl (fun w' => val_indexArr j hT rfl rfl rfl rfl rfl hlt w') ?_
    refine dr_op 13 rfl (by decide +kernel) rfl rfl (opTo_store [.int .i64 (freeK X.K : Nat)] rfl rfl rfl rfl (by kernel_rfl) h7.blk (by rw [ccells_length h7.nlen h7.klen]; simp; omega) (by simp; rfl) ⟨fun _ => trivial, ?_⟩)
    rw [show splice (ccells s X.N (takeK X.K (freeK X.K : Nat)) dv7) (0 + 1 + 1 + j * 1) [.int .i64 (freeK X.K : Nat)] = ccells s (layT X j).N (layT X j).K dv7 by
      rw [show 0 + 1 + 1 + j * 1 = 1 + (1 + j) by omega, ccells_setN _ _ (by omega)]
      rfl]
    obtain ⟨h8', ht8, _⟩ := h7.put (layT X j).N (layT X j).K (by simp [layT, h17]) h7.klen
    refine dr_done (by decide +kernel) ?_
    have hk8 := ht8.keep (ht7.keep ((hk3.drew).tr0 hk5) hB1) hB1
    generalize (w7.setRow c (ccells s (layT X j).N (layT X j).K dv7).toArray) = w8 at *
    repeat (first | refine pl_pure hT rfl rfl rfl ?_ | refine pl_nil ?_ | refine rn_seq ?_ | refine rn_plain ?_ | refine rn_block ?_ | refine rn_inBlock ?_ | refine rn_skip ?_ | refine rn_true rfl ?_ | refine rn_false rfl ?_ | refine rn_exit rfl ?_ | refine pl_not rfl rfl ?_)
    refine pl_val (.int .i64 ((j + 1 : Nat) : Int)) rfl rfl (val_int .i64 j 1 _ rfl rfl rfl (by simp only [intOp]; rw [wrap_i64 (by omega) (by omega)]; rfl) w8) ?_
    repeat (first | refine pl_pure hT rfl rfl rfl ?_ | refine pl_nil ?_ | refine rn_seq ?_ | refine rn_plain ?_ | refine rn_block ?_ | refine rn_inBlock ?_ | refine rn_skip ?_ | refine rn_true rfl ?_ | refine rn_false rfl ?_ | refine rn_exit rfl ?_ | refine pl_not rfl rfl ?_)
    refine rn_sub ?_ (ih (2 - (j + 1)) _ w8 (by omega) ⟨j + 1, dv7, fvs7, layT X j, rfl, hlt, rfl, hk8, h8', ?_⟩)
    · exact ⟨rfl, rfl, rfl, trivial⟩
    · have : j = 0 ∨ j = 1 := by omega
      rcases this with rfl | rfl <;> rw [hX] <;> rfl
  have hj2 : j = 2 := by omega
  subst hj2
  clear ih hge hj
  replace hX : X = planT S ps := hX
  subst hX
  refine pl_val (.bool false) rfl rfl (val_int .i64 _ _ _ rfl rfl rfl (by simp [intOp]) w3) ?_
  repeat (first | refine pl_pure hT rfl rfl rfl ?_ | refine pl_nil ?_ | refine rn_seq ?_ | refine rn_plain ?_ | refine rn_block ?_ | refine rn_inBlock ?_ | refine rn_skip ?_ | refine rn_true rfl ?_ | refine rn_false rfl ?_ | refine rn_exit rfl ?_ | refine pl_not rfl rfl ?_)
  refine pl_op rfl rfl (opTo_call rfl rfl rfl rfl (by decide +kernel) ((cflush_ret h3 (by omega)).mono ?_))
  rintro v w4 ⟨rfl, ⟨dv4, fvs4, h4⟩, ht4⟩
  have hk4 := ht4.keep hk3 hB1
  repeat (first | refine pl_pure hT rfl rfl rfl ?_ | refine pl_nil ?_ | refine rn_seq ?_ | refine rn_plain ?_ | refine rn_block ?_ | refine rn_inBlock ?_ | refine rn_skip ?_ | refine rn_true rfl ?_ | refine rn_false rfl ?_ | refine rn_exit rfl ?_ | refine pl_not rfl rfl ?_)
  refine rn_draw (fun w' => True) [] hMix ?_
  refine dr_pure 0 hT rfl (by decide +kernel) rfl rfl rfl ?_
  refine dr_pure 1 hT rfl (by decide +kernel) rfl rfl rfl ?_
  refine dr_pure 2 hT rfl (by decide +kernel) rfl rfl rfl ?_
  refine dr_pure 3 hT rfl (by decide +kernel) rfl rfl rfl ?_
  refine dr_pure 5 hT rfl (by decide +kernel) rfl rfl rfl ?_
  refine dr_pure 6 hT rfl (by decide +kernel) rfl rfl rfl ?_
  refine dr_pure 7 hT rfl (by decide +kernel) rfl rfl rfl ?_
  have h5 := h4.keep0 ((Keep.refl [] w4).drew)
  refine dr_op 4 rfl (by decide +kernel) rfl rfl (opTo_call rfl rfl rfl rfl (by decide +kernel) ((rootAt_ret h5).mono ?_))
  rintro v w5 ⟨rfl, rfl⟩
  refine ⟨fun _ => trivial, ?_⟩
  refine dr_op 8 rfl (by decide +kernel) rfl rfl (opTo_call rfl rfl rfl rfl (by decide +kernel) ((rootWords_ret h5).mono ?_))
  rintro v w6 ⟨rfl, hk6⟩
  refine ⟨fun _ => trivial, ?_⟩
  have h6 := h5.keep0 hk6
  have hkw6 := (hk4.drew).tr0 hk6
  refine dr_op 9 rfl (by decide +kernel) rfl rfl (opTo_call rfl rfl rfl rfl (by decide +kernel) ((cwrite_ret h6 (by simp; omega) ((planT S ps).N.getD 0 0 |>.tmod 2) (ws := rootW (planT S ps).N) rfl).mono ?_))
  rintro v w7 ⟨rfl, ⟨dv7, fvs7, h7⟩, ht7⟩
  refine ⟨fun _ => trivial, ?_⟩
  refine dr_done (by decide +kernel) ?_
  have hk7 := ht7.keep hkw6 hB1
  repeat (first | refine pl_pure hT rfl rfl rfl ?_ | refine pl_nil ?_ | refine rn_seq ?_ | refine rn_plain ?_ | refine rn_block ?_ | refine rn_inBlock ?_ | refine rn_skip ?_ | refine rn_true rfl ?_ | refine rn_false rfl ?_ | refine rn_exit rfl ?_ | refine pl_not rfl rfl ?_)
  refine pl_op rfl rfl (opTo_call rfl rfl rfl rfl (by decide +kernel) ((cflush_ret h7 (by simp; omega)).mono ?_))
  rintro v w8 ⟨rfl, ⟨dv8, fvs8, h8⟩, ht8⟩
  have hk8 := ht8.keep hk7 hB1
  repeat (first | refine pl_pure hT rfl rfl rfl ?_ | refine pl_nil ?_ | refine rn_seq ?_ | refine rn_plain ?_ | refine rn_block ?_ | refine rn_inBlock ?_ | refine rn_skip ?_ | refine rn_true rfl ?_ | refine rn_false rfl ?_ | refine rn_exit rfl ?_ | refine pl_not rfl rfl ?_)
  have h9 : ComV C w8 c s (planT S ps).N (planT S ps).K dv8 fvs8 (deedsOf S ps) := h8
  have hdl := deedsOf_len S ps
  have hd8 := hd.keep hk8 (by simp)
  have hs8 : StoreV w8 s d := hk8.blk hs (by simp)
  refine pl_op rfl rfl (opTo_call rfl rfl rfl rfl (by decide +kernel) ((do_ret h9 hs8 hd8 (by rw [hdl]; omega) may m (by rw [hdl]; exact hm)).mono ?_))
  rintro v w9 ⟨rfl, wv', hd9, hk9, hf9⟩
  rw [hdl]
  repeat (first | refine pl_pure hT rfl rfl rfl ?_ | refine pl_nil ?_ | refine rn_seq ?_ | refine rn_plain ?_ | refine rn_block ?_ | refine rn_inBlock ?_ | refine rn_skip ?_ | refine rn_true rfl ?_ | refine rn_false rfl ?_ | refine rn_exit rfl ?_ | refine pl_not rfl rfl ?_)
  refine rn_ret Try.func12 (.inr (.inr (.inr (.inr ⟨_, _, _, _, rfl, rfl, rfl, rfl⟩)))) ⟨rfl, wv', hd9, (hk8.of0).tr hk9, fun k hk => ?_⟩
  rcases hf9 k hk with h1 | h1
  · exact .inl h1
  · exact .inr (Nat.le_trans hk8.size h1)
end
end E
end Go.Proofs.Ytcnjmjdnlhiflab
