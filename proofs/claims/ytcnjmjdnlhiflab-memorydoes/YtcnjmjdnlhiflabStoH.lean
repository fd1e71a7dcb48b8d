/- The contracts of store.begin, of the deeds, and of do. -/
import Derived.Test.YtcnjmjdnlhiflabStoG
namespace Go.Proofs.Ytcnjmjdnlhiflab
set_option maxRecDepth 20000
namespace E
open Go.Proofs

theorem built_commit (s : Nat) {N : List Int} (h : N.length = 17) : Try.prog.built 86 [(0, Value.pointer (some ⟨s, 0, none⟩)), (1, Value.agg (ints N).toArray)] = some (ccells s N (List.replicate 34 false) (.slice none 0 0)).toArray := by
  obtain ⟨a, b, c, d, e, f, g, i, j, k, m, n, o, p, q, r, s, rfl⟩ := list17 h
  kernel_rfl

def takeAll (K : List Bool) (l : List Int) : List Bool := l.foldl takeK K
theorem takeAll_length (K : List Bool) (l : List Int) : (takeAll K l).length = K.length := by
  induction l generalizing K with
  | nil => rfl
  | cons a r ih => rw [takeAll, List.foldl_cons]; exact (ih _).trans (takeK_length _ _)
theorem takeAll_snoc (K : List Bool) {l : List Int} {j : Nat} {a : Int} (h : l[j]? = some a) : takeAll K (l.take (j + 1)) = takeK (takeAll K (l.take j)) a := by
  have hlt : j < l.length := (List.getElem?_eq_some_iff.1 h).1
  have hj : l[j] = a := (List.getElem?_eq_some_iff.1 h).2
  rw [List.take_succ_eq_append_getElem hlt, hj, takeAll, List.foldl_append]
  rfl

def K0 : List Bool := List.replicate 34 false
/-- What is taken: the roots, and what the last commit leads to. -/
def takenK (S : List Int) : List Bool := takeAll (takeAll (takeAll K0 [0, 1]) (tabS S)) (pgS S)

/-- The state with one commit more. -/
def nextN (S : List Int) : List Int := (genS S + 1) :: (tabS S ++ pgS S)

theorem begin_ret {B : Nat} {w : World} {s d : Nat} {S : List Int} {L : List Wr} {wv : Value} (hs : StoreV w s d) (h : DiskV B w d S L wv) (hg0 : 0 ≤ genS S) (hg1 : genS S < 1000000) :
    Ret Try.prog 29 [.pointer (some ⟨s, 0, none⟩)] w fun v w' => ∃ c, v = .pointer (some ⟨c, 0, none⟩) ∧ ComV w.heap.size w' c s (nextN S) (takenK S) (.slice none 0 0) [] [] ∧ Keep [] w w' := by
  refine ret_of 59 Try.func29 rfl rfl (by simp) ?_
  repeat (first | refine pl_pure hT rfl rfl rfl ?_ | refine pl_nil ?_ | refine rn_seq ?_ | refine rn_plain ?_ | refine rn_block ?_ | refine rn_inBlock ?_ | refine rn_skip ?_ | refine rn_true rfl ?_ | refine rn_false rfl ?_ | refine rn_exit rfl ?_ | refine pl_not rfl rfl ?_)
  refine pl_val (.pointer (some ⟨d, 0, none⟩)) rfl rfl (val_load1 hT rfl rfl rfl (hs.cell rfl)) ?_
  refine pl_op rfl rfl (opTo_call rfl rfl rfl rfl (by decide +kernel) ((sure_ret h).mono ?_))
  rintro v w1 ⟨g, cap, rfl, ho, hk1⟩
  refine pl_op rfl rfl (opTo_call rfl rfl rfl rfl (by decide +kernel) ((find_ret ho h.len (by have := owns_cap ho; omega)).mono ?_))
  rintro v w2 ⟨rfl, hk2⟩
  have hkw2 := hk1.tr0 hk2
  have h17 := stS_length h.len
  refine pl_val _ rfl rfl (val_build _ rfl rfl (built_commit s h17) w2) ?_
  refine pl_op rfl rfl (opTo_box _ rfl rfl rfl ?_)
  have hk3 := hkw2.alloc (.cells (ccells s (stS S) K0 (.slice none 0 0)).toArray 86)
  have hb3 := Blk.new w2 (ccells s (stS S) K0 (.slice none 0 0)) 86
  have h3 : ComV w.heap.size (w2.alloc (.cells (ccells s (stS S) K0 (.slice none 0 0)).toArray 86)) w2.heap.size s (stS S) K0 (.slice none 0 0) [] [] :=
    ⟨hb3, hkw2.size, h17, rfl, Own.nil _ _ _ _, fun j d hd => by simp at hd⟩
  rw [show (List.replicate 34 false) = K0 from rfl]
  clear hb3
  generalize (w2.alloc (.cells (ccells s (stS S) K0 (.slice none 0 0)).toArray 86)) = w3 at *
  generalize w2.heap.size = c at *
  repeat (first | refine pl_pure hT rfl rfl rfl ?_ | refine pl_nil ?_ | refine rn_seq ?_ | refine rn_plain ?_ | refine rn_block ?_ | refine rn_inBlock ?_ | refine rn_skip ?_ | refine rn_true rfl ?_ | refine rn_false rfl ?_ | refine rn_exit rfl ?_ | refine pl_not rfl rfl ?_)
  refine rn_ind (fun m σ w' => ∃ j, m = 2 - j ∧ j ≤ 2 ∧ σ = [(3, .pointer (some ⟨c, 0, none⟩)), (18, .int .i64 (j : Nat))] ∧ Keep [] w w' ∧ ComV w.heap.size w' c s (stS S) (takeAll K0 (([0, 1] : List Int).take j)) (.slice none 0 0) [] [])
    (2 - 0) _ ?_ ⟨0, rfl, by decide, rfl, hk3, h3⟩ ?_
  · exact ⟨rfl, rfl, trivial⟩
  clear h3 hk3
  rintro m σ w4 ih ⟨j, hm, hj, rfl, hk4, h4⟩
  repeat (first | refine pl_pure hT rfl rfl rfl ?_ | refine pl_nil ?_ | refine rn_seq ?_ | refine rn_plain ?_ | refine rn_block ?_ | refine rn_inBlock ?_ | refine rn_skip ?_ | refine rn_true rfl ?_ | refine rn_false rfl ?_ | refine rn_exit rfl ?_ | refine pl_not rfl rfl ?_)
  rcases Nat.lt_or_ge j 2 with hlt | hge
  · refine pl_val (.bool true) rfl rfl (val_int .i64 _ _ _ rfl rfl rfl (by simp [intOp]; omega) w4) ?_
    repeat (first | refine pl_pure hT rfl rfl rfl ?_ | refine pl_nil ?_ | refine rn_seq ?_ | refine rn_plain ?_ | refine rn_block ?_ | refine rn_inBlock ?_ | refine rn_skip ?_ | refine rn_true rfl ?_ | refine rn_false rfl ?_ | refine rn_exit rfl ?_ | refine pl_not rfl rfl ?_)
    have hel : ([0, 1] : List Int)[j]? = some (j : Int) := by
      have : j = 0 ∨ j = 1 := by omega
      rcases this with rfl | rfl <;> rfl
    refine pl_op rfl rfl (opTo_call rfl rfl rfl rfl (by decide +kernel) ((take_ret h4 (j : Nat)).mono ?_))
    rintro v w5 ⟨rfl, h5, ht5⟩
    repeat (first | refine pl_pure hT rfl rfl rfl ?_ | refine pl_nil ?_ | refine rn_seq ?_ | refine rn_plain ?_ | refine rn_block ?_ | refine rn_inBlock ?_ | refine rn_skip ?_ | refine rn_true rfl ?_ | refine rn_false rfl ?_ | refine rn_exit rfl ?_ | refine pl_not rfl rfl ?_)
    refine pl_val (.int .i64 ((j + 1 : Nat) : Int)) rfl rfl (val_int .i64 j 1 _ rfl rfl rfl (by simp only [intOp]; rw [wrap_i64 (by omega) (by omega)]; rfl) w5) ?_
    repeat (first | refine pl_pure hT rfl rfl rfl ?_ | refine pl_nil ?_ | refine rn_seq ?_ | refine rn_plain ?_ | refine rn_block ?_ | refine rn_inBlock ?_ | refine rn_skip ?_ | refine rn_true rfl ?_ | refine rn_false rfl ?_ | refine rn_exit rfl ?_ | refine pl_not rfl rfl ?_)
    refine rn_sub ?_ (ih (2 - (j + 1)) _ w5 (by omega) ⟨j + 1, rfl, hlt, rfl, ht5.keep hk4 (Nat.le_refl _), by rw [takeAll_snoc K0 hel]; exact h5⟩)
    exact ⟨rfl, rfl, trivial⟩
  have hj2 : j = 2 := by omega
  subst hj2
  clear ih hm hj hge
  replace h4 : ComV w.heap.size w4 c s (stS S) (takeAll K0 [0, 1]) (.slice none 0 0) [] [] := h4
  generalize hK1 : takeAll K0 [0, 1] = K1 at h4
  refine pl_val (.bool false) rfl rfl (val_int .i64 _ _ _ rfl rfl rfl (by simp [intOp]) w4) ?_
  repeat (first | refine pl_pure hT rfl rfl rfl ?_ | refine pl_nil ?_ | refine rn_seq ?_ | refine rn_plain ?_ | refine rn_block ?_ | refine rn_inBlock ?_ | refine rn_skip ?_ | refine rn_true rfl ?_ | refine rn_false rfl ?_ | refine rn_exit rfl ?_ | refine pl_not rfl rfl ?_)
  have t2 := tabS_length h.len
  have p14 := pgS_length h.len
  have hrt := h4.rangeN 1 2 (by decide)
  rw [show ((stS S).drop 1).take 2 = tabS S by simp [stS, t2]] at hrt
  refine pl_val (.agg (ints (tabS S)).toArray) rfl rfl (val_load _ hT rfl rfl (by rw [ints_length, t2]; rfl) hrt) ?_
  repeat (first | refine pl_pure hT rfl rfl rfl ?_ | refine pl_nil ?_ | refine rn_seq ?_ | refine rn_plain ?_ | refine rn_block ?_ | refine rn_inBlock ?_ | refine rn_skip ?_ | refine rn_true rfl ?_ | refine rn_false rfl ?_ | refine rn_exit rfl ?_ | refine pl_not rfl rfl ?_)
  refine rn_ind (fun m σ w' => ∃ j, m = 2 - j ∧ j ≤ 2 ∧ σ = [(3, .pointer (some ⟨c, 0, none⟩)), (29, .agg (ints (tabS S)).toArray), (30, .int .i64 (j : Nat))] ∧ Keep [] w w' ∧ ComV w.heap.size w' c s (stS S) (takeAll K1 ((tabS S).take j)) (.slice none 0 0) [] [])
    (2 - 0) _ ?_ ⟨0, rfl, by decide, rfl, hk4, h4⟩ ?_
  · exact ⟨rfl, rfl, rfl, trivial⟩
  clear h4 hk4 hrt
  rintro m σ w4 ih ⟨j, hm, hj, rfl, hk4, h4⟩
  repeat (first | refine pl_pure hT rfl rfl rfl ?_ | refine pl_nil ?_ | refine rn_seq ?_ | refine rn_plain ?_ | refine rn_block ?_ | refine rn_inBlock ?_ | refine rn_skip ?_ | refine rn_true rfl ?_ | refine rn_false rfl ?_ | refine rn_exit rfl ?_ | refine pl_not rfl rfl ?_)
  rcases Nat.lt_or_ge j 2 with hlt | hge
  · refine pl_val (.bool true) rfl rfl (val_int .i64 _ _ _ rfl rfl rfl (by simp [intOp]; omega) w4) ?_
    repeat (first | refine pl_pure hT rfl rfl rfl ?_ | refine pl_nil ?_ | refine rn_seq ?_ | refine rn_plain ?_ | refine rn_block ?_ | refine rn_inBlock ?_ | refine rn_skip ?_ | refine rn_true rfl ?_ | refine rn_false rfl ?_ | refine rn_exit rfl ?_ | refine pl_not rfl rfl ?_)
    obtain ⟨a, ha⟩ : ∃ a, (tabS S)[j]? = some a := ⟨_, List.getElem?_eq_getElem (by omega)⟩
    refine pl_val (.int .i64 a) rfl rfl (val_at _ j arrT rfl rfl rfl rfl hlt ha w4) ?_
    repeat (first | refine pl_pure hT rfl rfl rfl ?_ | refine pl_nil ?_ | refine rn_seq ?_ | refine rn_plain ?_ | refine rn_block ?_ | refine rn_inBlock ?_ | refine rn_skip ?_ | refine rn_true rfl ?_ | refine rn_false rfl ?_ | refine rn_exit rfl ?_ | refine pl_not rfl rfl ?_)
    refine pl_op rfl rfl (opTo_call rfl rfl rfl rfl (by decide +kernel) ((take_ret h4 a).mono ?_))
    rintro v w5 ⟨rfl, h5, ht5⟩
    repeat (first | refine pl_pure hT rfl rfl rfl ?_ | refine pl_nil ?_ | refine rn_seq ?_ | refine rn_plain ?_ | refine rn_block ?_ | refine rn_inBlock ?_ | refine rn_skip ?_ | refine rn_true rfl ?_ | refine rn_false rfl ?_ | refine rn_exit rfl ?_ | refine pl_not rfl rfl ?_)
    refine pl_val (.int .i64 ((j + 1 : Nat) : Int)) rfl rfl (val_int .i64 j 1 _ rfl rfl rfl (by simp only [intOp]; rw [wrap_i64 (by omega) (by omega)]; rfl) w5) ?_
    repeat (first | refine pl_pure hT rfl rfl rfl ?_ | refine pl_nil ?_ | refine rn_seq ?_ | refine rn_plain ?_ | refine rn_block ?_ | refine rn_inBlock ?_ | refine rn_skip ?_ | refine rn_true rfl ?_ | refine rn_false rfl ?_ | refine rn_exit rfl ?_ | refine pl_not rfl rfl ?_)
    refine rn_sub ?_ (ih (2 - (j + 1)) _ w5 (by omega) ⟨j + 1, rfl, hlt, rfl, ht5.keep hk4 (Nat.le_refl _), by rw [takeAll_snoc K1 ha]; exact h5⟩)
    exact ⟨rfl, rfl, rfl, trivial⟩
  have hj2 : j = 2 := by omega
  subst hj2
  clear ih hm hj hge
  rw [List.take_of_length_le (by omega)] at h4
  generalize hK2 : takeAll K1 (tabS S) = K2 at h4
  refine pl_val (.bool false) rfl rfl (val_int .i64 _ _ _ rfl rfl rfl (by simp [intOp]) w4) ?_
  repeat (first | refine pl_pure hT rfl rfl rfl ?_ | refine pl_nil ?_ | refine rn_seq ?_ | refine rn_plain ?_ | refine rn_block ?_ | refine rn_inBlock ?_ | refine rn_skip ?_ | refine rn_true rfl ?_ | refine rn_false rfl ?_ | refine rn_exit rfl ?_ | refine pl_not rfl rfl ?_)
  have hrp := h4.rangeN 3 14 (by decide)
  rw [show ((stS S).drop 3).take 14 = pgS S by simp [stS, t2, List.take_of_length_le, p14]] at hrp
  refine pl_val (.agg (ints (pgS S)).toArray) rfl rfl (val_load _ hT rfl rfl (by rw [ints_length, p14]; rfl) hrp) ?_
  repeat (first | refine pl_pure hT rfl rfl rfl ?_ | refine pl_nil ?_ | refine rn_seq ?_ | refine rn_plain ?_ | refine rn_block ?_ | refine rn_inBlock ?_ | refine rn_skip ?_ | refine rn_true rfl ?_ | refine rn_false rfl ?_ | refine rn_exit rfl ?_ | refine pl_not rfl rfl ?_)
  refine rn_ind (fun m σ w' => ∃ j, m = 14 - j ∧ j ≤ 14 ∧ σ = [(3, .pointer (some ⟨c, 0, none⟩)), (41, .agg (ints (pgS S)).toArray), (42, .int .i64 (j : Nat))] ∧ Keep [] w w' ∧ ComV w.heap.size w' c s (stS S) (takeAll K2 ((pgS S).take j)) (.slice none 0 0) [] [])
    (14 - 0) _ ?_ ⟨0, rfl, by decide, rfl, hk4, h4⟩ ?_
  · exact ⟨rfl, rfl, rfl, trivial⟩
  clear h4 hk4 hrp
  rintro m σ w4 ih ⟨j, hm, hj, rfl, hk4, h4⟩
  repeat (first | refine pl_pure hT rfl rfl rfl ?_ | refine pl_nil ?_ | refine rn_seq ?_ | refine rn_plain ?_ | refine rn_block ?_ | refine rn_inBlock ?_ | refine rn_skip ?_ | refine rn_true rfl ?_ | refine rn_false rfl ?_ | refine rn_exit rfl ?_ | refine pl_not rfl rfl ?_)
  rcases Nat.lt_or_ge j 14 with hlt | hge
  · refine pl_val (.bool true) rfl rfl (val_int .i64 _ _ _ rfl rfl rfl (by simp [intOp]; omega) w4) ?_
    repeat (first | refine pl_pure hT rfl rfl rfl ?_ | refine pl_nil ?_ | refine rn_seq ?_ | refine rn_plain ?_ | refine rn_block ?_ | refine rn_inBlock ?_ | refine rn_skip ?_ | refine rn_true rfl ?_ | refine rn_false rfl ?_ | refine rn_exit rfl ?_ | refine pl_not rfl rfl ?_)
    obtain ⟨a, ha⟩ : ∃ a, (pgS S)[j]? = some a := ⟨_, List.getElem?_eq_getElem (by omega)⟩
    refine pl_val (.int .i64 a) rfl rfl (val_at _ j arrP rfl rfl rfl rfl hlt ha w4) ?_
    repeat (first | refine pl_pure hT rfl rfl rfl ?_ | refine pl_nil ?_ | refine rn_seq ?_ | refine rn_plain ?_ | refine rn_block ?_ | refine rn_inBlock ?_ | refine rn_skip ?_ | refine rn_true rfl ?_ | refine rn_false rfl ?_ | refine rn_exit rfl ?_ | refine pl_not rfl rfl ?_)
    refine pl_op rfl rfl (opTo_call rfl rfl rfl rfl (by decide +kernel) ((take_ret h4 a).mono ?_))
    rintro v w5 ⟨rfl, h5, ht5⟩
    repeat (first | refine pl_pure hT rfl rfl rfl ?_ | refine pl_nil ?_ | refine rn_seq ?_ | refine rn_plain ?_ | refine rn_block ?_ | refine rn_inBlock ?_ | refine rn_skip ?_ | refine rn_true rfl ?_ | refine rn_false rfl ?_ | refine rn_exit rfl ?_ | refine pl_not rfl rfl ?_)
    refine pl_val (.int .i64 ((j + 1 : Nat) : Int)) rfl rfl (val_int .i64 j 1 _ rfl rfl rfl (by simp only [intOp]; rw [wrap_i64 (by omega) (by omega)]; rfl) w5) ?_
    repeat (first | refine pl_pure hT rfl rfl rfl ?_ | refine pl_nil ?_ | refine rn_seq ?_ | refine rn_plain ?_ | refine rn_block ?_ | refine rn_inBlock ?_ | refine rn_skip ?_ | refine rn_true rfl ?_ | refine rn_false rfl ?_ | refine rn_exit rfl ?_ | refine pl_not rfl rfl ?_)
    refine rn_sub ?_ (ih (14 - (j + 1)) _ w5 (by omega) ⟨j + 1, rfl, hlt, rfl, ht5.keep hk4 (Nat.le_refl _), by rw [takeAll_snoc K2 ha]; exact h5⟩)
    exact ⟨rfl, rfl, rfl, trivial⟩
  have hj2 : j = 14 := by omega
  subst hj2
  clear ih hm hj hge
  rw [List.take_of_length_le (by omega)] at h4
  refine pl_val (.bool false) rfl rfl (val_int .i64 _ _ _ rfl rfl rfl (by simp [intOp]) w4) ?_
  repeat (first | refine pl_pure hT rfl rfl rfl ?_ | refine pl_nil ?_ | refine rn_seq ?_ | refine rn_plain ?_ | refine rn_block ?_ | refine rn_inBlock ?_ | refine rn_skip ?_ | refine rn_true rfl ?_ | refine rn_false rfl ?_ | refine rn_exit rfl ?_ | refine pl_not rfl rfl ?_)
  refine pl_val (.int .i64 (genS S)) rfl rfl (val_load1 hT rfl rfl rfl (h4.cellN (i := 0) rfl)) ?_
  refine pl_val (.int .i64 (genS S + 1)) rfl rfl (val_int .i64 _ 1 _ rfl rfl rfl (by simp only [intOp]; rw [wrap_i64 (by omega) (by omega)]) w4) ?_
  repeat (first | refine pl_pure hT rfl rfl rfl ?_ | refine pl_nil ?_ | refine rn_seq ?_ | refine rn_plain ?_ | refine rn_block ?_ | refine rn_inBlock ?_ | refine rn_skip ?_ | refine rn_true rfl ?_ | refine rn_false rfl ?_ | refine rn_exit rfl ?_ | refine pl_not rfl rfl ?_)
  refine pl_op rfl rfl (opTo_store _ rfl rfl rfl rfl (by kernel_rfl) h4.blk (by rw [ccells_length h4.nlen h4.klen]; simp) (by simp; rfl) ?_)
  rw [show splice (ccells s (stS S) (takeAll K2 (pgS S)) (.slice none 0 0)) (0 + 1 + 0) [.int .i64 (genS S + 1)] = ccells s (nextN S) (takeAll K2 (pgS S)) (.slice none 0 0) from (ccells_setN 0 _ (by omega)).trans rfl]
  obtain ⟨h5, ht5, _⟩ := h4.put (nextN S) (takeAll K2 (pgS S)) (by simp [nextN, t2, p14]) h4.klen
  repeat (first | refine pl_pure hT rfl rfl rfl ?_ | refine pl_nil ?_ | refine rn_seq ?_ | refine rn_plain ?_ | refine rn_block ?_ | refine rn_inBlock ?_ | refine rn_skip ?_ | refine rn_true rfl ?_ | refine rn_false rfl ?_ | refine rn_exit rfl ?_ | refine pl_not rfl rfl ?_)
  refine rn_ret Try.func29 (.inl ⟨_, rfl, rfl⟩) ⟨c, rfl, ?_, ht5.keep hk4 (Nat.le_refl _)⟩
  have e : takenK S = takeAll K2 (pgS S) := by rw [← hK2, ← hK1]; rfl
  rw [e]
  exact h5

/-- What a deed makes of a disk. -/
def doDeed (x : List Int × List Wr) : Deed → List Int × List Wr
  | none => (settled (fun _ => true) x.2 x.1, [])
  | some (a, ws) => (x.1, if hasB a then x.2 ++ [(a.toNat, ws)] else x.2)
def doDeeds (D : List Deed) (x : List Int × List Wr) : List Int × List Wr := D.foldl doDeed x

theorem doDeeds_snoc {D : List Deed} {j : Nat} {d : Deed} (h : D[j]? = some d) (x : List Int × List Wr) : doDeeds (D.take (j + 1)) x = doDeed (doDeeds (D.take j) x) d := by
  have hlt : j < D.length := (List.getElem?_eq_some_iff.1 h).1
  have hj : D[j] = d := (List.getElem?_eq_some_iff.1 h).2
  rw [List.take_succ_eq_append_getElem hlt, hj, doDeeds, List.foldl_append]
  rfl
theorem doDeeds_len (D : List Deed) (x : List Int × List Wr) : (doDeeds D x).2.length ≤ x.2.length + D.length := by
  induction D generalizing x with
  | nil => simp [doDeeds]
  | cons d r ih =>
    have h1 := ih (doDeed x d)
    have h2 : (doDeed x d).2.length ≤ x.2.length + 1 := by
      cases d with
      | none => simp [doDeed]
      | some p => simp only [doDeed]; split <;> simp
    simp only [doDeeds, List.foldl_cons, List.length_cons] at h1 ⊢
    omega

theorem fpD_typ {B : Nat} {w : World} {d : Nat} {S : List Int} {L : List Wr} {wv : Value} (h : DiskV B w d S L wv) : ∀ k ∈ fpD d wv, ∀ M e, Blk w k M e → e = 73 ∨ e = 104 := by
  intro k hk M e hb
  simp only [fpD, List.mem_cons, Option.mem_toList] at hk
  rcases hk with rfl | hk
  · exact .inl (blk_typ hb h.blk)
  · rcases h.owns.2 with ⟨h1, _⟩ | ⟨g, cap, cur, h1, _, hg, _⟩
    · rw [h1] at hk; simp [Value.ownBlock] at hk
    · rw [h1] at hk
      simp [Value.ownBlock] at hk
      subst hk
      refine .inr (blk_typ (L' := cur.toList) hb ?_)
      unfold Blk
      simpa using hg

section
variable {B Bd : Nat} {w : World} {c s d : Nat} {N : List Int} {K : List Bool} {dv : Value} {fvs : List Value} {D : List Deed} {S : List Int} {L : List Wr} {wv : Value}

theorem deed_ret (h : ComV B w c s N K dv fvs D) (hs : StoreV w s d) (hd : DiskV Bd w d S L wv) (hL : L.length < 1000000) {fv : Value} {de : Deed} (hv : DeedV w c fv de) :
    ∃ g cap, fv = .func (.func g) #[] (List.toArray cap) ∧ callable Try.prog g = true ∧ Ret Try.prog g cap w fun v w' => v = .tuple #[] ∧ ∃ wv', DiskV Bd w' d (doDeed (S, L) de).1 (doDeed (S, L) de).2 wv' ∧ Keep (fpD d wv) w w' ∧ ∀ k ∈ fpD d wv', k ∈ fpD d wv ∨ w.heap.size ≤ k := by
  cases de with
  | none =>
    obtain ⟨x, rfl, hx⟩ := hv
    refine ⟨_, [.pointer (some ⟨x, 0, none⟩)], rfl, by decide +kernel, ?_⟩
    refine ret_of 9 Try.func49 rfl rfl (by simp) ?_
    repeat (first | refine pl_pure hT rfl rfl rfl ?_ | refine pl_nil ?_ | refine rn_seq ?_ | refine rn_plain ?_ | refine rn_block ?_ | refine rn_inBlock ?_ | refine rn_skip ?_ | refine rn_true rfl ?_ | refine rn_false rfl ?_ | refine rn_exit rfl ?_ | refine pl_not rfl rfl ?_)
    refine pl_val (.pointer (some ⟨c, 0, none⟩)) rfl rfl (val_load1 hT rfl rfl rfl (hx.cell rfl)) ?_
    repeat (first | refine pl_pure hT rfl rfl rfl ?_ | refine pl_nil ?_ | refine rn_seq ?_ | refine rn_plain ?_ | refine rn_block ?_ | refine rn_inBlock ?_ | refine rn_skip ?_ | refine rn_true rfl ?_ | refine rn_false rfl ?_ | refine rn_exit rfl ?_ | refine pl_not rfl rfl ?_)
    refine pl_val (.pointer (some ⟨s, 0, none⟩)) rfl rfl (val_load1 hT rfl rfl rfl h.cellS) ?_
    repeat (first | refine pl_pure hT rfl rfl rfl ?_ | refine pl_nil ?_ | refine rn_seq ?_ | refine rn_plain ?_ | refine rn_block ?_ | refine rn_inBlock ?_ | refine rn_skip ?_ | refine rn_true rfl ?_ | refine rn_false rfl ?_ | refine rn_exit rfl ?_ | refine pl_not rfl rfl ?_)
    refine pl_val (.pointer (some ⟨d, 0, none⟩)) rfl rfl (val_load1 hT rfl rfl rfl (hs.cell rfl)) ?_
    refine pl_op rfl rfl (opTo_call rfl rfl rfl rfl (by decide +kernel) ((flush_ret hd hL).mono ?_))
    rintro v w1 ⟨rfl, h1, hk⟩
    repeat (first | refine pl_pure hT rfl rfl rfl ?_ | refine pl_nil ?_ | refine rn_seq ?_ | refine rn_plain ?_ | refine rn_block ?_ | refine rn_inBlock ?_ | refine rn_skip ?_ | refine rn_true rfl ?_ | refine rn_false rfl ?_ | refine rn_exit rfl ?_ | refine pl_not rfl rfl ?_)
    refine rn_end Try.func49 (.inr (.inl ⟨rfl, rfl⟩)) ⟨rfl, _, h1, hk.mono fun k hk => .inl (by simp at hk; simp [fpD, hk]), fun k hk => .inl ?_⟩
    simp [fpD, Value.ownBlock] at hk
    simp [fpD, hk]
  | some p =>
    obtain ⟨x, y, z, rfl, hx, hy, hz, h8⟩ := hv
    refine ⟨_, [.pointer (some ⟨x, 0, none⟩), .pointer (some ⟨y, 0, none⟩), .pointer (some ⟨z, 0, none⟩)], rfl, by decide +kernel, ?_⟩
    refine ret_of 13 Try.func51 rfl rfl (by simp) ?_
    have hk0 : Keep (fpD d wv) w w.drew := (Keep.refl _ _).drew
    have hty := fpD_typ hd
    have hxn : x ∉ fpD d wv := fun hm => absurd (hty x hm _ _ hx) (by decide)
    have hyn : y ∉ fpD d wv := fun hm => absurd (hty y hm _ _ hy) (by decide)
    have hzn : z ∉ fpD d wv := fun hm => absurd (hty z hm _ _ hz) (by decide)
    have hsn : s ∉ fpD d wv := fun hm => absurd (hty s hm _ _ hs) (by decide)
    have hcn : c ∉ fpD d wv := fun hm => absurd (hty c hm _ _ h.blk) (by decide)
    repeat (first | refine pl_pure hT rfl rfl rfl ?_ | refine pl_nil ?_ | refine rn_seq ?_ | refine rn_plain ?_ | refine rn_block ?_ | refine rn_inBlock ?_ | refine rn_skip ?_ | refine rn_true rfl ?_ | refine rn_false rfl ?_ | refine rn_exit rfl ?_ | refine pl_not rfl rfl ?_)
    refine rn_draw (fun w' => Keep (fpD d wv) w w') [] hMix ?_
    refine dr_val 0 (.pointer (some ⟨c, 0, none⟩)) rfl (by decide +kernel) rfl rfl (fun w' hk => val_load1 hT rfl rfl rfl ((hk.blk hx hxn).cell rfl)) hk0 ?_
    refine dr_pure 1 hT rfl (by decide +kernel) rfl rfl rfl ?_
    refine dr_pure 2 hT rfl (by decide +kernel) rfl rfl rfl ?_
    refine dr_val 3 (.pointer (some ⟨s, 0, none⟩)) rfl (by decide +kernel) rfl rfl (fun w' hk => val_load1 hT rfl rfl rfl ((hk.blk h.blk hcn).cell rfl)) hk0 ?_
    refine dr_pure 4 hT rfl (by decide +kernel) rfl rfl rfl ?_
    refine dr_pure 5 hT rfl (by decide +kernel) rfl rfl rfl ?_
    refine dr_val 6 (.pointer (some ⟨d, 0, none⟩)) rfl (by decide +kernel) rfl rfl (fun w' hk => val_load1 hT rfl rfl rfl ((hk.blk hs hsn).cell rfl)) hk0 ?_
    refine dr_val 7 (.int .i64 p.1) rfl (by decide +kernel) rfl rfl (fun w' hk => val_load1 hT rfl rfl rfl ((hk.blk hy hyn).cell rfl)) hk0 ?_
    refine dr_val 8 (.agg (ints p.2).toArray) rfl (by decide +kernel) rfl rfl (fun w' hk => val_load _ hT rfl rfl (by rw [ints_length, h8]; rfl) ((hk.blk hz hzn).range (by simp))) hk0 ?_
    refine dr_op 9 rfl (by decide +kernel) rfl rfl (opTo_call rfl rfl rfl rfl (by decide +kernel) ((write_ret (hd.keep ((Keep.refl [] _).drew) (by simp)) p.1 h8 hL).mono ?_))
    rintro v w1 ⟨rfl, wv', h1, hk, hf⟩
    refine ⟨fun _ => hk0.tr hk, ?_⟩
    refine dr_done (by decide +kernel) ?_
    exact rn_end Try.func51 (.inr (.inl ⟨rfl, rfl⟩)) ⟨rfl, wv', h1, hk0.tr hk, hf⟩

theorem do_ret (h : ComV B w c s N K dv fvs D) (hs : StoreV w s d) (hd : DiskV Bd w d S L wv) (hL : L.length + D.length < 1000000) (may : Int) (m : Nat) (hm : m = if may < 0 ∨ may ≥ D.length then D.length else may.toNat) :
    Ret Try.prog 36 [.pointer (some ⟨c, 0, none⟩), .int .i64 may] w fun v w' => v = .bool (decide (may < 0 ∨ may ≥ D.length)) ∧ ∃ wv', DiskV Bd w' d (doDeeds (D.take m) (S, L)).1 (doDeeds (D.take m) (S, L)).2 wv' ∧ Keep (fpD d wv) w w' ∧ ∀ k ∈ fpD d wv', k ∈ fpD d wv ∨ w.heap.size ≤ k := by
  refine ret_of 40 Try.func36 rfl rfl (by simp) ?_
  obtain ⟨da, dcap, hdv⟩ := h.own.form
  have hcap : D.length ≤ dcap := by have := h.own.cap_le; rw [hdv] at this; exact this
  have hmD : m ≤ D.length := by rw [hm]; split <;> omega
  repeat (first | refine pl_pure hT rfl rfl rfl ?_ | refine pl_nil ?_ | refine rn_inBlock ?_ | refine rn_skip ?_ | refine rn_true rfl ?_ | refine rn_false rfl ?_ | refine rn_exit rfl ?_)
  refine rn_seq ?_
  refine rn_plain ?_
  refine pl_pure hT rfl rfl rfl ?_
  refine pl_nil ?_
  refine rn_seq ?_
  refine rn_with (fun σ w' => w' = w ∧ σ = [(0, .pointer (some ⟨c, 0, none⟩)), (1, .int .i64 may), (5, .bool (decide (may < 0 ∨ may ≥ D.length)))]) ?_ ?_
  · rintro σ w1 ⟨rfl, rfl⟩
    refine rn_seq ?_
    refine rn_with (fun σ w' => w' = w1 ∧ σ = [(0, .pointer (some ⟨c, 0, none⟩)), (1, .int .i64 (m : Nat)), (5, .bool (decide (may < 0 ∨ may ≥ D.length)))]) ?_ ?_
    · rintro σ w2 ⟨rfl, rfl⟩
      repeat (first | refine pl_pure hT rfl rfl rfl ?_ | refine pl_nil ?_ | refine rn_seq ?_ | refine rn_plain ?_ | refine rn_block ?_ | refine rn_inBlock ?_ | refine rn_skip ?_ | refine rn_true rfl ?_ | refine rn_false rfl ?_ | refine rn_exit rfl ?_ | refine pl_not rfl rfl ?_)
      refine pl_val dv rfl rfl (val_load1 hT rfl rfl rfl h.cellD) ?_
      repeat (first | refine pl_pure hT rfl rfl rfl ?_ | refine pl_nil ?_ | refine rn_seq ?_ | refine rn_plain ?_ | refine rn_block ?_ | refine rn_inBlock ?_ | refine rn_skip ?_ | refine rn_true rfl ?_ | refine rn_false rfl ?_ | refine rn_exit rfl ?_ | refine pl_not rfl rfl ?_)
      refine pl_val _ rfl rfl (val_sliceTo m hT rfl (by rw [hdv]; rfl) rfl rfl rfl (by omega) w2) ?_
      repeat (first | refine pl_pure hT rfl rfl rfl ?_ | refine pl_nil ?_ | refine rn_seq ?_ | refine rn_plain ?_ | refine rn_block ?_ | refine rn_inBlock ?_ | refine rn_skip ?_ | refine rn_true rfl ?_ | refine rn_false rfl ?_ | refine rn_exit rfl ?_ | refine pl_not rfl rfl ?_)
      refine rn_ind (fun q σ w' => ∃ j wv', q = m - j ∧ j ≤ m ∧ σ = [(5, .bool (decide (may < 0 ∨ may ≥ D.length))), (30, .slice da m dcap), (31, .int .i64 (m : Nat)), (32, .int .i64 (j : Nat))] ∧
          DiskV Bd w' d (doDeeds (D.take j) (S, L)).1 (doDeeds (D.take j) (S, L)).2 wv' ∧ Keep (fpD d wv) w2 w' ∧ ∀ k ∈ fpD d wv', k ∈ fpD d wv ∨ w2.heap.size ≤ k)
        (m - 0) _ ?_ ⟨0, wv, rfl, Nat.zero_le _, rfl, hd, Keep.refl _ _, fun k hk => .inl hk⟩ ?_
      · exact ⟨rfl, rfl, rfl, rfl, trivial⟩
      rintro q σ w3 ih ⟨j, wv', hq, hj, rfl, hd3, hk3, hf3⟩
      have h3 : ComV B w3 c s N K dv fvs D := h.keep hk3 (fpD_typ hd)
      have hs3 : StoreV w3 s d := hk3.blk hs fun hm => absurd (fpD_typ hd s hm _ _ hs) (by decide)
      repeat (first | refine pl_pure hT rfl rfl rfl ?_ | refine pl_nil ?_ | refine rn_seq ?_ | refine rn_plain ?_ | refine rn_block ?_ | refine rn_inBlock ?_ | refine rn_skip ?_ | refine rn_true rfl ?_ | refine rn_false rfl ?_ | refine rn_exit rfl ?_ | refine pl_not rfl rfl ?_)
      rcases Nat.lt_or_ge j m with hlt | hge
      · refine pl_val (.bool true) rfl rfl (val_int .i64 _ _ _ rfl rfl rfl (by simp [intOp]; omega) w3) ?_
        repeat (first | refine pl_pure hT rfl rfl rfl ?_ | refine pl_nil ?_ | refine rn_seq ?_ | refine rn_plain ?_ | refine rn_block ?_ | refine rn_inBlock ?_ | refine rn_skip ?_ | refine rn_true rfl ?_ | refine rn_false rfl ?_ | refine rn_exit rfl ?_ | refine pl_not rfl rfl ?_)
        obtain ⟨de, hde⟩ : ∃ de, D[j]? = some de := ⟨_, List.getElem?_eq_getElem (by omega)⟩
        obtain ⟨fv, hfv, hv⟩ := h3.fs j de hde
        obtain ⟨g', cap', hdv', hr⟩ := h3.own.range (q := j) (cs := [fv]) (by
          have hlt' : j < fvs.length := (List.getElem?_eq_some_iff.1 hfv).1
          rw [List.drop_eq_getElem_cons hlt', (List.getElem?_eq_some_iff.1 hfv).2]
          rfl) (by omega)
        have hda : da = some ⟨g', 0, none⟩ := by rw [hdv] at hdv'; injection hdv'
        refine pl_val _ rfl rfl (val_index j hT rfl (by rw [hda]; rfl) rfl rfl rfl hlt w3) ?_
        refine pl_val fv rfl rfl (val_load1 hT rfl rfl rfl (by rw [Nat.zero_add, Nat.mul_one]; exact hr 0 fv rfl)) ?_
        repeat (first | refine pl_pure hT rfl rfl rfl ?_ | refine pl_nil ?_ | refine rn_seq ?_ | refine rn_plain ?_ | refine rn_block ?_ | refine rn_inBlock ?_ | refine rn_skip ?_ | refine rn_true rfl ?_ | refine rn_false rfl ?_ | refine rn_exit rfl ?_ | refine pl_not rfl rfl ?_)
        have hlen := doDeeds_len (D.take j) (S, L)
        rw [List.length_take] at hlen
        obtain ⟨g, cap, hfe, hcall, hret⟩ := deed_ret h3 hs3 hd3 (by have := Nat.min_le_right j D.length; simp only at hlen; omega) hv
        subst hfe
        refine pl_op rfl rfl (opTo_call (fst := []) (vs := []) (cap := cap) rfl rfl rfl rfl hcall (hret.mono ?_))
        rintro v w4 ⟨rfl, wv4, hd4, hk4, hf4⟩
        repeat (first | refine pl_pure hT rfl rfl rfl ?_ | refine pl_nil ?_ | refine rn_seq ?_ | refine rn_plain ?_ | refine rn_block ?_ | refine rn_inBlock ?_ | refine rn_skip ?_ | refine rn_true rfl ?_ | refine rn_false rfl ?_ | refine rn_exit rfl ?_ | refine pl_not rfl rfl ?_)
        refine pl_val (.int .i64 ((j + 1 : Nat) : Int)) rfl rfl (val_int .i64 j 1 _ rfl rfl rfl (by simp only [intOp]; rw [wrap_i64 (by omega) (by omega)]; rfl) w4) ?_
        repeat (first | refine pl_pure hT rfl rfl rfl ?_ | refine pl_nil ?_ | refine rn_seq ?_ | refine rn_plain ?_ | refine rn_block ?_ | refine rn_inBlock ?_ | refine rn_skip ?_ | refine rn_true rfl ?_ | refine rn_false rfl ?_ | refine rn_exit rfl ?_ | refine pl_not rfl rfl ?_)
        refine rn_sub ?_ (ih (m - (j + 1)) _ w4 (by omega) ⟨j + 1, wv4, rfl, hlt, rfl, by rw [doDeeds_snoc hde]; exact hd4, hk3.trans hk4 hf3, fun k hk => ?_⟩)
        · exact ⟨rfl, rfl, rfl, rfl, trivial⟩
        · rcases hf4 k hk with h1 | h1
          · exact hf3 k h1
          · exact .inr (Nat.le_trans hk3.size h1)
      · have hjm : j = m := by omega
        subst hjm
        refine pl_val (.bool false) rfl rfl (val_int .i64 _ _ _ rfl rfl rfl (by simp [intOp]) w3) ?_
        repeat (first | refine pl_pure hT rfl rfl rfl ?_ | refine pl_nil ?_ | refine rn_seq ?_ | refine rn_plain ?_ | refine rn_block ?_ | refine rn_inBlock ?_ | refine rn_skip ?_ | refine rn_true rfl ?_ | refine rn_false rfl ?_ | refine rn_exit rfl ?_ | refine pl_not rfl rfl ?_)
        exact rn_ret Try.func36 (.inl ⟨_, rfl, rfl⟩) ⟨rfl, wv', hd3, hk3, hf3⟩
    intro hjoin
    refine rn_seq ?_
    refine rn_plain ?_
    refine pl_pure hT rfl rfl rfl ?_
    refine pl_nil ?_
    by_cases hdn : may < 0 ∨ may ≥ D.length
    · refine rn_true (by rw [decide_eq_true hdn]; rfl) ?_
      refine rn_plain ?_
      repeat (first | refine pl_pure hT rfl rfl rfl ?_)
      refine pl_val dv rfl rfl (val_load1 hT rfl rfl rfl h.cellD) ?_
      refine pl_val (.int .i64 D.length) rfl rfl (val_pure hT (by rw [hdv]; rfl) w1) ?_
      repeat (first | refine pl_pure hT rfl rfl rfl ?_ | refine pl_nil ?_)
      refine rn_sub ?_ (hjoin _ w1 ⟨rfl, rfl⟩)
      rw [show m = D.length by rw [hm, if_pos hdn]]
      exact ⟨rfl, rfl, rfl, trivial⟩
    · refine rn_false (by rw [decide_eq_false hdn]; rfl) ?_
      refine rn_skip ?_
      refine rn_sub ?_ (hjoin _ w1 ⟨rfl, rfl⟩)
      have hmi : ((m : Nat) : Int) = may := by rw [hm, if_neg hdn]; omega
      rw [hmi]
      exact ⟨rfl, rfl, rfl, trivial⟩
  intro hjoin
  refine rn_plain ?_
  refine pl_pure hT rfl rfl rfl ?_
  by_cases h0 : may < 0
  · refine pl_val (.bool true) rfl rfl (val_int .i64 may 0 _ rfl rfl rfl (by simp [intOp, h0]) w) ?_
    repeat (first | refine pl_pure hT rfl rfl rfl ?_ | refine pl_nil ?_ | refine pl_not rfl rfl ?_)
    refine rn_sub ?_ (hjoin _ w ⟨rfl, rfl⟩)
    rw [decide_eq_true (.inl h0)]
    exact ⟨rfl, rfl, rfl, trivial⟩
  · refine pl_val (.bool false) rfl rfl (val_int .i64 may 0 _ rfl rfl rfl (by simp [intOp, h0]) w) ?_
    repeat (first | refine pl_pure hT rfl rfl rfl ?_)
    refine pl_val dv rfl rfl (val_load1 hT rfl rfl rfl h.cellD) ?_
    refine pl_val (.int .i64 D.length) rfl rfl (val_pure hT (by rw [hdv]; rfl) w) ?_
    refine pl_val (.bool (decide (may ≥ D.length))) rfl rfl (val_int .i64 may D.length _ rfl rfl rfl (by simp only [intOp]) w) ?_
    repeat (first | refine pl_pure hT rfl rfl rfl ?_ | refine pl_nil ?_)
    refine rn_sub ?_ (hjoin _ w ⟨rfl, rfl⟩)
    rw [show decide (may < 0 ∨ may ≥ D.length) = decide (may ≥ D.length) by simp [h0]]
    exact ⟨rfl, rfl, rfl, trivial⟩
end
end E
end Go.Proofs.Ytcnjmjdnlhiflab
