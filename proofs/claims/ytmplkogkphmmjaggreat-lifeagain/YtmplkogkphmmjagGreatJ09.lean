/- Several texts in one: StoH, StoI, StoM. -/
import Derived.Test.YtmplkogkphmmjagGreatJ08
/- The contracts of store.begin, of the deeds, and of do. -/
namespace Go.Proofs.YtmplkogkphmmjagGreat
set_option maxRecDepth 20000
set_option maxHeartbeats 4000000
namespace E
open Go.Proofs

theorem built_commit (s : Nat) {N : List Int} (h : N.length = 17) : Tryz.prog.built 173 [(0, Value.pointer (some ⟨s, 0, none⟩)), (1, Value.agg (ints N).toArray)] = some (ccells s N (List.replicate 34 false) (.slice none 0 0)).toArray := by
  obtain ⟨a, b, c, d, e, f, g, i, j, k, m, n, o, p, q, r, s, rfl⟩ := list17 h
  kernel_rfl

def takeAll (K : List Bool) (l : List Int) : List Bool := l.foldl takeK K
theorem takeAll_length (K : List Bool) (l : List Int) : (takeAll K l).length = K.length := by
  induction l generalizing K with
  | nil => rfl
  | cons a r ih => rw [takeAll, List.foldl_cons]; exact (ih _).trans (takeK_length _ _)
theorem takeAll_snoc (K : List Bool) {l : List Int} {j : Nat} {a : Int} (h : l[j]? = some a) : takeAll K (l.take (j + 1)) = takeK (takeAll K (l.take j)) a := by
  have hlt : j < l.length := (List.getElem?_eq_some_iff.1 h).1
  have hj : l[j] = a := (List.getElem?_eq_some_iff.1 h).2
  rw [List.take_succ_eq_append_getElem hlt, hj, takeAll, List.foldl_append]
  rfl

def K0 : List Bool := List.replicate 34 false
/-- What is taken: the roots, and what the last commit leads to. -/
def takenK (S : List Int) : List Bool := takeAll (takeAll (takeAll K0 [0, 1]) (tabS S)) (pgS S)

/-- The state with one commit more. -/
def nextN (S : List Int) : List Int := (genS S + 1) :: (tabS S ++ pgS S)

theorem begin_ret {B : Nat} {w : World} {s d : Nat} {S : List Int} {L : List Wr} {wv : Value} (hs : StoreV w s d) (h : DiskV B w d S L wv) (hg0 : 0 ≤ genS S) (hg1 : genS S < 1000000) :
    Ret Tryz.prog 103 [.pointer (some ⟨s, 0, none⟩)] w fun v w' => ∃ c, v = .pointer (some ⟨c, 0, none⟩) ∧ ComV w.heap.size w' c s (nextN S) (takenK S) (.slice none 0 0) [] [] ∧ Keep [] w w' := by
  refine ret_of 59 Tryz.func103 rfl rfl (by simp) ?_
  refine au ?_
  refine pl_val (.pointer (some ⟨d, 0, none⟩)) rfl rfl (val_load1 hT rfl rfl rfl (hs.cell rfl)) ?_
  refine pl_op rfl rfl (opTo_call rfl rfl rfl rfl (by decide +kernel) ((sure_ret h).mono ?_))
  rintro v w1 ⟨g, cap, rfl, ho, hk1⟩
  refine pl_op rfl rfl (opTo_call rfl rfl rfl rfl (by decide +kernel) ((find_ret ho h.len (by have := owns_cap ho; omega)).mono ?_))
  rintro v w2 ⟨rfl, hk2⟩
  have hkw2 := hk1.tr0 hk2
  have h17 := stS_length h.len
  refine pl_val _ rfl rfl (val_build _ rfl rfl (built_commit s h17) w2) ?_
  refine pl_op rfl rfl (opTo_box _ rfl rfl rfl ?_)
  have hk3 := hkw2.alloc (.cells (ccells s (stS S) K0 (.slice none 0 0)).toArray 173)
  have hb3 := Blk.new w2 (ccells s (stS S) K0 (.slice none 0 0)) 173
  have h3 : ComV w.heap.size (w2.alloc (.cells (ccells s (stS S) K0 (.slice none 0 0)).toArray 173)) w2.heap.size s (stS S) K0 (.slice none 0 0) [] [] :=
    ⟨hb3, hkw2.size, h17, rfl, Own.nil _ _ _ _, fun j d hd => by simp at hd⟩
  rw [show (List.replicate 34 false) = K0 from rfl]
  clear hb3
  generalize (w2.alloc (.cells (ccells s (stS S) K0 (.slice none 0 0)).toArray 173)) = w3 at *
  generalize w2.heap.size = c at *
  refine au ?_
  refine rn_ind (fun m σ w' => ∃ j, m = 2 - j ∧ j ≤ 2 ∧ σ = [(3, .pointer (some ⟨c, 0, none⟩)), (18, .int .i64 (j : Nat))] ∧ Keep [] w w' ∧ ComV w.heap.size w' c s (stS S) (takeAll K0 (([0, 1] : List Int).take j)) (.slice none 0 0) [] [])
    (2 - 0) _ ?_ ⟨0, rfl, by decide, rfl, hk3, h3⟩ ?_
  · exact ⟨rfl, rfl, trivial⟩
  clear h3 hk3
  rintro m σ w4 ih ⟨j, hm, hj, rfl, hk4, h4⟩
  refine au ?_
  rcases Nat.lt_or_ge j 2 with hlt | hge
  · refine pl_val (.bool true) rfl rfl (val_int .i64 _ _ _ rfl rfl rfl (by simp [intOp]; omega) w4) ?_
    refine au ?_
    have hel : ([0, 1] : List Int)[j]? = some (j : Int) := by
      have : j = 0 ∨ j = 1 := by omega
      rcases this with rfl | rfl <;> rfl
    refine pl_op rfl rfl (opTo_call rfl rfl rfl rfl (by decide +kernel) ((take_ret h4 (j : Nat)).mono ?_))
    rintro v w5 ⟨rfl, h5, ht5⟩
    refine au ?_
    refine pl_val (.int .i64 ((j + 1 : Nat) : Int)) rfl rfl (val_int .i64 j 1 _ rfl rfl rfl (by simp only [intOp]; rw [wrap_i64 (by omega) (by omega)]; rfl) w5) ?_
    refine au ?_
    refine rn_sub ?_ (ih (2 - (j + 1)) _ w5 (by omega) ⟨j + 1, rfl, hlt, rfl, ht5.keep hk4 (Nat.le_refl _), by rw [takeAll_snoc K0 hel]; exact h5⟩)
    exact ⟨rfl, rfl, trivial⟩
  have hj2 : j = 2 := by omega
  subst hj2
  clear ih hm hj hge
  replace h4 : ComV w.heap.size w4 c s (stS S) (takeAll K0 [0, 1]) (.slice none 0 0) [] [] := h4
  generalize hK1 : takeAll K0 [0, 1] = K1 at h4
  refine pl_val (.bool false) rfl rfl (val_int .i64 _ _ _ rfl rfl rfl (by simp [intOp]) w4) ?_
  refine au ?_
  have t2 := tabS_length h.len
  have p14 := pgS_length h.len
  have hrt := h4.rangeN 1 2 (by decide)
  rw [show ((stS S).drop 1).take 2 = tabS S by simp [stS, t2]] at hrt
  refine pl_val (.agg (ints (tabS S)).toArray) rfl rfl (val_load _ hT rfl rfl (by rw [ints_length, t2]; rfl) hrt) ?_
  refine au ?_
  refine rn_ind (fun m σ w' => ∃ j, m = 2 - j ∧ j ≤ 2 ∧ σ = [(3, .pointer (some ⟨c, 0, none⟩)), (29, .agg (ints (tabS S)).toArray), (30, .int .i64 (j : Nat))] ∧ Keep [] w w' ∧ ComV w.heap.size w' c s (stS S) (takeAll K1 ((tabS S).take j)) (.slice none 0 0) [] [])
    (2 - 0) _ ?_ ⟨0, rfl, by decide, rfl, hk4, h4⟩ ?_
  · exact ⟨rfl, rfl, rfl, trivial⟩
  clear h4 hk4 hrt
  rintro m σ w4 ih ⟨j, hm, hj, rfl, hk4, h4⟩
  refine au ?_
  rcases Nat.lt_or_ge j 2 with hlt | hge
  · refine pl_val (.bool true) rfl rfl (val_int .i64 _ _ _ rfl rfl rfl (by simp [intOp]; omega) w4) ?_
    refine au ?_
    obtain ⟨a, ha⟩ : ∃ a, (tabS S)[j]? = some a := ⟨_, List.getElem?_eq_getElem (by omega)⟩
    refine pl_val (.int .i64 a) rfl rfl (val_at _ j arrT rfl rfl rfl rfl hlt ha w4) ?_
    refine au ?_
    refine pl_op rfl rfl (opTo_call rfl rfl rfl rfl (by decide +kernel) ((take_ret h4 a).mono ?_))
    rintro v w5 ⟨rfl, h5, ht5⟩
    refine au ?_
    refine pl_val (.int .i64 ((j + 1 : Nat) : Int)) rfl rfl (val_int .i64 j 1 _ rfl rfl rfl (by simp only [intOp]; rw [wrap_i64 (by omega) (by omega)]; rfl) w5) ?_
    refine au ?_
    refine rn_sub ?_ (ih (2 - (j + 1)) _ w5 (by omega) ⟨j + 1, rfl, hlt, rfl, ht5.keep hk4 (Nat.le_refl _), by rw [takeAll_snoc K1 ha]; exact h5⟩)
    exact ⟨rfl, rfl, rfl, trivial⟩
  have hj2 : j = 2 := by omega
  subst hj2
  clear ih hm hj hge
  rw [List.take_of_length_le (by omega)] at h4
  generalize hK2 : takeAll K1 (tabS S) = K2 at h4
  refine pl_val (.bool false) rfl rfl (val_int .i64 _ _ _ rfl rfl rfl (by simp [intOp]) w4) ?_
  refine au ?_
  have hrp := h4.rangeN 3 14 (by decide)
  rw [show ((stS S).drop 3).take 14 = pgS S by simp [stS, t2, List.take_of_length_le, p14]] at hrp
  refine pl_val (.agg (ints (pgS S)).toArray) rfl rfl (val_load _ hT rfl rfl (by rw [ints_length, p14]; rfl) hrp) ?_
  refine au ?_
  refine rn_ind (fun m σ w' => ∃ j, m = 14 - j ∧ j ≤ 14 ∧ σ = [(3, .pointer (some ⟨c, 0, none⟩)), (41, .agg (ints (pgS S)).toArray), (42, .int .i64 (j : Nat))] ∧ Keep [] w w' ∧ ComV w.heap.size w' c s (stS S) (takeAll K2 ((pgS S).take j)) (.slice none 0 0) [] [])
    (14 - 0) _ ?_ ⟨0, rfl, by decide, rfl, hk4, h4⟩ ?_
  · exact ⟨rfl, rfl, rfl, trivial⟩
  clear h4 hk4 hrp
  rintro m σ w4 ih ⟨j, hm, hj, rfl, hk4, h4⟩
  refine au ?_
  rcases Nat.lt_or_ge j 14 with hlt | hge
  · refine pl_val (.bool true) rfl rfl (val_int .i64 _ _ _ rfl rfl rfl (by simp [intOp]; omega) w4) ?_
    refine au ?_
    obtain ⟨a, ha⟩ : ∃ a, (pgS S)[j]? = some a := ⟨_, List.getElem?_eq_getElem (by omega)⟩
    refine pl_val (.int .i64 a) rfl rfl (val_at _ j arrP rfl rfl rfl rfl hlt ha w4) ?_
    refine au ?_
    refine pl_op rfl rfl (opTo_call rfl rfl rfl rfl (by decide +kernel) ((take_ret h4 a).mono ?_))
    rintro v w5 ⟨rfl, h5, ht5⟩
    refine au ?_
    refine pl_val (.int .i64 ((j + 1 : Nat) : Int)) rfl rfl (val_int .i64 j 1 _ rfl rfl rfl (by simp only [intOp]; rw [wrap_i64 (by omega) (by omega)]; rfl) w5) ?_
    refine au ?_
    refine rn_sub ?_ (ih (14 - (j + 1)) _ w5 (by omega) ⟨j + 1, rfl, hlt, rfl, ht5.keep hk4 (Nat.le_refl _), by rw [takeAll_snoc K2 ha]; exact h5⟩)
    exact ⟨rfl, rfl, rfl, trivial⟩
  have hj2 : j = 14 := by omega
  subst hj2
  clear ih hm hj hge
  rw [List.take_of_length_le (by omega)] at h4
  refine pl_val (.bool false) rfl rfl (val_int .i64 _ _ _ rfl rfl rfl (by simp [intOp]) w4) ?_
  refine au ?_
  refine pl_val (.int .i64 (genS S)) rfl rfl (val_load1 hT rfl rfl rfl (h4.cellN (i := 0) rfl)) ?_
  refine pl_val (.int .i64 (genS S + 1)) rfl rfl (val_int .i64 _ 1 _ rfl rfl rfl (by simp only [intOp]; rw [wrap_i64 (by omega) (by omega)]) w4) ?_
  refine au ?_
  refine pl_op rfl rfl (opTo_store _ rfl rfl rfl rfl (by kernel_rfl) h4.blk (by rw [ccells_length h4.nlen h4.klen]; simp) (by simp; rfl) ?_)
  rw [show splice (ccells s (stS S) (takeAll K2 (pgS S)) (.slice none 0 0)) (0 + 1 + 0) [.int .i64 (genS S + 1)] = ccells s (nextN S) (takeAll K2 (pgS S)) (.slice none 0 0) from (ccells_setN 0 _ (by omega)).trans rfl]
  obtain ⟨h5, ht5, _⟩ := h4.put (nextN S) (takeAll K2 (pgS S)) (by simp [nextN, t2, p14]) h4.klen
  refine au ?_
  refine rn_ret Tryz.func103 (.inl ⟨_, rfl, rfl⟩) ⟨c, rfl, ?_, ht5.keep hk4 (Nat.le_refl _)⟩
  have e : takenK S = takeAll K2 (pgS S) := by rw [← hK2, ← hK1]; rfl
  rw [e]
  exact h5

/-- What a deed makes of a disk. -/
def doDeed (x : List Int × List Wr) : Deed → List Int × List Wr
  | none => (settled (fun _ => true) x.2 x.1, [])
  | some (a, ws) => (x.1, if hasB a then x.2 ++ [(a.toNat, ws)] else x.2)
def doDeeds (D : List Deed) (x : List Int × List Wr) : List Int × List Wr := D.foldl doDeed x

theorem doDeeds_snoc {D : List Deed} {j : Nat} {d : Deed} (h : D[j]? = some d) (x : List Int × List Wr) : doDeeds (D.take (j + 1)) x = doDeed (doDeeds (D.take j) x) d := by
  have hlt : j < D.length := (List.getElem?_eq_some_iff.1 h).1
  have hj : D[j] = d := (List.getElem?_eq_some_iff.1 h).2
  rw [List.take_succ_eq_append_getElem hlt, hj, doDeeds, List.foldl_append]
  rfl
theorem doDeeds_len (D : List Deed) (x : List Int × List Wr) : (doDeeds D x).2.length ≤ x.2.length + D.length := by
  induction D generalizing x with
  | nil => simp [doDeeds]
  | cons d r ih =>
    have h1 := ih (doDeed x d)
    have h2 : (doDeed x d).2.length ≤ x.2.length + 1 := by
      cases d with
      | none => simp [doDeed]
      | some p => simp only [doDeed]; split <;> simp
    simp only [doDeeds, List.foldl_cons, List.length_cons] at h1 ⊢
    omega

theorem fpD_typ {B : Nat} {w : World} {d : Nat} {S : List Int} {L : List Wr} {wv : Value} (h : DiskV B w d S L wv) : ∀ k ∈ fpD d wv, ∀ M e, Blk w k M e → e = 113 ∨ e = 153 := by
  intro k hk M e hb
  simp only [fpD, List.mem_cons, Option.mem_toList] at hk
  rcases hk with rfl | hk
  · exact .inl (blk_typ hb h.blk)
  · rcases h.owns.2 with ⟨h1, _⟩ | ⟨g, cap, cur, h1, _, hg, _⟩
    · rw [h1] at hk; simp [Value.ownBlock] at hk
    · rw [h1] at hk
      simp [Value.ownBlock] at hk
      subst hk
      refine .inr (blk_typ (L' := cur.toList) hb ?_)
      unfold Blk
      simpa using hg

section
variable {B Bd : Nat} {w : World} {c s d : Nat} {N : List Int} {K : List Bool} {dv : Value} {fvs : List Value} {D : List Deed} {S : List Int} {L : List Wr} {wv : Value}

theorem deed_ret (h : ComV B w c s N K dv fvs D) (hs : StoreV w s d) (hd : DiskV Bd w d S L wv) (hL : L.length < 1000000) {fv : Value} {de : Deed} (hv : DeedV w c fv de) :
    ∃ g cap, fv = .func (.func g) #[] (List.toArray cap) ∧ callable Tryz.prog g = true ∧ Ret Tryz.prog g cap w fun v w' => v = .tuple #[] ∧ ∃ wv', DiskV Bd w' d (doDeed (S, L) de).1 (doDeed (S, L) de).2 wv' ∧ Keep (fpD d wv) w w' ∧ ∀ k ∈ fpD d wv', k ∈ fpD d wv ∨ w.heap.size ≤ k := by
  cases de with
  | none =>
    obtain ⟨x, rfl, hx⟩ := hv
    refine ⟨_, [.pointer (some ⟨x, 0, none⟩)], rfl, by decide +kernel, ?_⟩
    refine ret_of 9 Tryz.func115 rfl rfl (by simp) ?_
    refine au ?_
    refine pl_val (.pointer (some ⟨c, 0, none⟩)) rfl rfl (val_load1 hT rfl rfl rfl (hx.cell rfl)) ?_
    refine au ?_
    refine pl_val (.pointer (some ⟨s, 0, none⟩)) rfl rfl (val_load1 hT rfl rfl rfl h.cellS) ?_
    refine au ?_
    refine pl_val (.pointer (some ⟨d, 0, none⟩)) rfl rfl (val_load1 hT rfl rfl rfl (hs.cell rfl)) ?_
    refine pl_op rfl rfl (opTo_call rfl rfl rfl rfl (by decide +kernel) ((flush_ret hd hL).mono ?_))
    rintro v w1 ⟨rfl, h1, hk⟩
    refine au ?_
    refine rn_end Tryz.func115 (.inr (.inl ⟨rfl, rfl⟩)) ⟨rfl, _, h1, hk.mono fun k hk => .inl (by simp at hk; simp [fpD, hk]), fun k hk => .inl ?_⟩
    simp [fpD, Value.ownBlock] at hk
    simp [fpD, hk]
  | some p =>
    obtain ⟨x, y, z, rfl, hx, hy, hz, h8⟩ := hv
    refine ⟨_, [.pointer (some ⟨x, 0, none⟩), .pointer (some ⟨y, 0, none⟩), .pointer (some ⟨z, 0, none⟩)], rfl, by decide +kernel, ?_⟩
    refine ret_of 13 Tryz.func117 rfl rfl (by simp) ?_
    have hk0 : Keep (fpD d wv) w w.drew := (Keep.refl _ _).drew
    have hty := fpD_typ hd
    have hxn : x ∉ fpD d wv := fun hm => absurd (hty x hm _ _ hx) (by decide)
    have hyn : y ∉ fpD d wv := fun hm => absurd (hty y hm _ _ hy) (by decide)
    have hzn : z ∉ fpD d wv := fun hm => absurd (hty z hm _ _ hz) (by decide)
    have hsn : s ∉ fpD d wv := fun hm => absurd (hty s hm _ _ hs) (by decide)
    have hcn : c ∉ fpD d wv := fun hm => absurd (hty c hm _ _ h.blk) (by decide)
    refine au ?_
    refine rn_draw (fun w' => Keep (fpD d wv) w w') [] hMix ?_
    refine dr_val 0 (.pointer (some ⟨c, 0, none⟩)) rfl (by decide +kernel) rfl rfl (fun w' hk => val_load1 hT rfl rfl rfl ((hk.blk hx hxn).cell rfl)) hk0 ?_
    refine tk 1 ?_
    refine tk 2 ?_
    refine dr_val 3 (.pointer (some ⟨s, 0, none⟩)) rfl (by decide +kernel) rfl rfl (fun w' hk => val_load1 hT rfl rfl rfl ((hk.blk h.blk hcn).cell rfl)) hk0 ?_
    refine tk 4 ?_
    refine tk 5 ?_
    refine dr_val 6 (.pointer (some ⟨d, 0, none⟩)) rfl (by decide +kernel) rfl rfl (fun w' hk => val_load1 hT rfl rfl rfl ((hk.blk hs hsn).cell rfl)) hk0 ?_
    refine dr_val 7 (.int .i64 p.1) rfl (by decide +kernel) rfl rfl (fun w' hk => val_load1 hT rfl rfl rfl ((hk.blk hy hyn).cell rfl)) hk0 ?_
    refine dr_val 8 (.agg (ints p.2).toArray) rfl (by decide +kernel) rfl rfl (fun w' hk => val_load _ hT rfl rfl (by rw [ints_length, h8]; rfl) ((hk.blk hz hzn).range (by simp))) hk0 ?_
    refine dr_op 9 rfl (by decide +kernel) rfl rfl (opTo_call rfl rfl rfl rfl (by decide +kernel) ((write_ret (hd.keep ((Keep.refl [] _).drew) (by simp)) p.1 h8 hL).mono ?_))
    rintro v w1 ⟨rfl, wv', h1, hk, hf⟩
    refine ⟨fun _ => hk0.tr hk, ?_⟩
    refine dr_done (by decide +kernel) ?_
    exact rn_end Tryz.func117 (.inr (.inl ⟨rfl, rfl⟩)) ⟨rfl, wv', h1, hk0.tr hk, hf⟩

theorem do_ret (h : ComV B w c s N K dv fvs D) (hs : StoreV w s d) (hd : DiskV Bd w d S L wv) (hL : L.length + D.length < 1000000) (may : Int) (m : Nat) (hm : m = if may < 0 ∨ may ≥ D.length then D.length else may.toNat) :
    Ret Tryz.prog 110 [.pointer (some ⟨c, 0, none⟩), .int .i64 may] w fun v w' => v = .bool (decide (may < 0 ∨ may ≥ D.length)) ∧ ∃ wv', DiskV Bd w' d (doDeeds (D.take m) (S, L)).1 (doDeeds (D.take m) (S, L)).2 wv' ∧ Keep (fpD d wv) w w' ∧ ∀ k ∈ fpD d wv', k ∈ fpD d wv ∨ w.heap.size ≤ k := by
  refine ret_of 40 Tryz.func110 rfl rfl (by simp) ?_
  obtain ⟨da, dcap, hdv⟩ := h.own.form
  have hcap : D.length ≤ dcap := by have := h.own.cap_le; rw [hdv] at this; exact this
  have hmD : m ≤ D.length := by rw [hm]; split <;> omega
  refine auj ?_
  refine rn_seq ?_
  refine rn_plain ?_
  refine pl_pure hT rfl rfl rfl ?_
  refine pl_nil ?_
  refine rn_seq ?_
  refine rn_with (fun σ w' => w' = w ∧ σ = [(0, .pointer (some ⟨c, 0, none⟩)), (1, .int .i64 may), (5, .bool (decide (may < 0 ∨ may ≥ D.length)))]) ?_ ?_
  · rintro σ w1 ⟨rfl, rfl⟩
    refine rn_seq ?_
    refine rn_with (fun σ w' => w' = w1 ∧ σ = [(0, .pointer (some ⟨c, 0, none⟩)), (1, .int .i64 (m : Nat)), (5, .bool (decide (may < 0 ∨ may ≥ D.length)))]) ?_ ?_
    · rintro σ w2 ⟨rfl, rfl⟩
      refine au ?_
      refine pl_val dv rfl rfl (val_load1 hT rfl rfl rfl h.cellD) ?_
      refine au ?_
      refine pl_val _ rfl rfl (val_sliceTo m hT rfl (by rw [hdv]; rfl) rfl rfl rfl (by omega) w2) ?_
      refine au ?_
      refine rn_ind (fun q σ w' => ∃ j wv', q = m - j ∧ j ≤ m ∧ σ = [(5, .bool (decide (may < 0 ∨ may ≥ D.length))), (30, .slice da m dcap), (31, .int .i64 (m : Nat)), (32, .int .i64 (j : Nat))] ∧
          DiskV Bd w' d (doDeeds (D.take j) (S, L)).1 (doDeeds (D.take j) (S, L)).2 wv' ∧ Keep (fpD d wv) w2 w' ∧ ∀ k ∈ fpD d wv', k ∈ fpD d wv ∨ w2.heap.size ≤ k)
        (m - 0) _ ?_ ⟨0, wv, rfl, Nat.zero_le _, rfl, hd, Keep.refl _ _, fun k hk => .inl hk⟩ ?_
      · exact ⟨rfl, rfl, rfl, rfl, trivial⟩
      rintro q σ w3 ih ⟨j, wv', hq, hj, rfl, hd3, hk3, hf3⟩
      have h3 : ComV B w3 c s N K dv fvs D := h.keep hk3 (fpD_typ hd)
      have hs3 : StoreV w3 s d := hk3.blk hs fun hm => absurd (fpD_typ hd s hm _ _ hs) (by decide)
      refine au ?_
      rcases Nat.lt_or_ge j m with hlt | hge
      · refine pl_val (.bool true) rfl rfl (val_int .i64 _ _ _ rfl rfl rfl (by simp [intOp]; omega) w3) ?_
        refine au ?_
        obtain ⟨de, hde⟩ : ∃ de, D[j]? = some de := ⟨_, List.getElem?_eq_getElem (by omega)⟩
        obtain ⟨fv, hfv, hv⟩ := h3.fs j de hde
        obtain ⟨g', cap', hdv', hr⟩ := h3.own.range (q := j) (cs := [fv]) (by
          have hlt' : j < fvs.length := (List.getElem?_eq_some_iff.1 hfv).1
          rw [List.drop_eq_getElem_cons hlt', (List.getElem?_eq_some_iff.1 hfv).2]
          rfl) (by omega)
        have hda : da = some ⟨g', 0, none⟩ := by rw [hdv] at hdv'; injection hdv'
        refine pl_val _ rfl rfl (val_index j hT rfl (by rw [hda]; rfl) rfl rfl rfl hlt w3) ?_
        refine pl_val fv rfl rfl (val_load1 hT rfl rfl rfl (by rw [Nat.zero_add, Nat.mul_one]; exact hr 0 fv rfl)) ?_
        refine au ?_
        have hlen := doDeeds_len (D.take j) (S, L)
        rw [List.length_take] at hlen
        obtain ⟨g, cap, hfe, hcall, hret⟩ := deed_ret h3 hs3 hd3 (by have := Nat.min_le_right j D.length; simp only at hlen; omega) hv
        subst hfe
        refine pl_op rfl rfl (opTo_call (fst := []) (vs := []) (cap := cap) rfl rfl rfl rfl hcall (hret.mono ?_))
        rintro v w4 ⟨rfl, wv4, hd4, hk4, hf4⟩
        refine au ?_
        refine pl_val (.int .i64 ((j + 1 : Nat) : Int)) rfl rfl (val_int .i64 j 1 _ rfl rfl rfl (by simp only [intOp]; rw [wrap_i64 (by omega) (by omega)]; rfl) w4) ?_
        refine au ?_
        refine rn_sub ?_ (ih (m - (j + 1)) _ w4 (by omega) ⟨j + 1, wv4, rfl, hlt, rfl, by rw [doDeeds_snoc hde]; exact hd4, hk3.trans hk4 hf3, fun k hk => ?_⟩)
        · exact ⟨rfl, rfl, rfl, rfl, trivial⟩
        · rcases hf4 k hk with h1 | h1
          · exact hf3 k h1
          · exact .inr (Nat.le_trans hk3.size h1)
      · have hjm : j = m := by omega
        subst hjm
        refine pl_val (.bool false) rfl rfl (val_int .i64 _ _ _ rfl rfl rfl (by simp [intOp]) w3) ?_
        refine au ?_
        exact rn_ret Tryz.func110 (.inl ⟨_, rfl, rfl⟩) ⟨rfl, wv', hd3, hk3, hf3⟩
    intro hjoin
    refine rn_seq ?_
    refine rn_plain ?_
    refine pl_pure hT rfl rfl rfl ?_
    refine pl_nil ?_
    by_cases hdn : may < 0 ∨ may ≥ D.length
    · refine rn_true (by rw [decide_eq_true hdn]; rfl) ?_
      refine rn_plain ?_
      repeat (first | refine pl_pure hT rfl rfl rfl ?_)
      refine pl_val dv rfl rfl (val_load1 hT rfl rfl rfl h.cellD) ?_
      refine pl_val (.int .i64 D.length) rfl rfl (val_pure hT (by rw [hdv]; rfl) w1) ?_
      repeat (first | refine pl_pure hT rfl rfl rfl ?_ | refine pl_nil ?_)
      refine rn_sub ?_ (hjoin _ w1 ⟨rfl, rfl⟩)
      rw [show m = D.length by rw [hm, if_pos hdn]]
      exact ⟨rfl, rfl, rfl, trivial⟩
    · refine rn_false (by rw [decide_eq_false hdn]; rfl) ?_
      refine rn_skip ?_
      refine rn_sub ?_ (hjoin _ w1 ⟨rfl, rfl⟩)
      have hmi : ((m : Nat) : Int) = may := by rw [hm, if_neg hdn]; omega
      rw [hmi]
      exact ⟨rfl, rfl, rfl, trivial⟩
  intro hjoin
  refine rn_plain ?_
  refine pl_pure hT rfl rfl rfl ?_
  by_cases h0 : may < 0
  · refine pl_val (.bool true) rfl rfl (val_int .i64 may 0 _ rfl rfl rfl (by simp [intOp, h0]) w) ?_
    repeat (first | refine pl_pure hT rfl rfl rfl ?_ | refine pl_nil ?_ | refine pl_not rfl rfl ?_)
    refine rn_sub ?_ (hjoin _ w ⟨rfl, rfl⟩)
    rw [decide_eq_true (.inl h0)]
    exact ⟨rfl, rfl, rfl, trivial⟩
  · refine pl_val (.bool false) rfl rfl (val_int .i64 may 0 _ rfl rfl rfl (by simp [intOp, h0]) w) ?_
    repeat (first | refine pl_pure hT rfl rfl rfl ?_)
    refine pl_val dv rfl rfl (val_load1 hT rfl rfl rfl h.cellD) ?_
    refine pl_val (.int .i64 D.length) rfl rfl (val_pure hT (by rw [hdv]; rfl) w) ?_
    refine pl_val (.bool (decide (may ≥ D.length))) rfl rfl (val_int .i64 may D.length _ rfl rfl rfl (by simp only [intOp]) w) ?_
    repeat (first | refine pl_pure hT rfl rfl rfl ?_ | refine pl_nil ?_)
    refine rn_sub ?_ (hjoin _ w ⟨rfl, rfl⟩)
    rw [show decide (may < 0 ∨ may ≥ D.length) = decide (may ≥ D.length) by simp [h0]]
    exact ⟨rfl, rfl, rfl, trivial⟩
end
end E
end Go.Proofs.YtmplkogkphmmjagGreat

/- The contract of Commit. -/
namespace Go.Proofs.YtmplkogkphmmjagGreat
set_option maxRecDepth 20000
set_option maxHeartbeats 4000000
namespace E
open Go.Proofs

/-- What a commit plans: the next state, what is taken, the deeds. -/
structure Plan where
  N : List Int
  K : List Bool
  D : List Deed

def layP (x : Plan) (p : Pg) : Plan := ⟨x.N.set (3 + p.1.toNat) (freeK x.K : Nat), takeK x.K (freeK x.K : Nat), x.D ++ [some (((freeK x.K : Nat) : Int), p.2)]⟩
def layT (x : Plan) (j : Nat) : Plan := ⟨x.N.set (1 + j) (freeK x.K : Nat), takeK x.K (freeK x.K : Nat), x.D ++ [some (((freeK x.K : Nat) : Int), partW x.N j)]⟩
def planP (S : List Int) (ps : List Pg) : Plan := ps.foldl layP ⟨nextN S, takenK S, []⟩
def planT (S : List Int) (ps : List Pg) : Plan := layT (layT (planP S ps) 0) 1
def rootD (x : Plan) : Int × List Int := ((x.N.getD 0 0).tmod 2, rootW x.N)
def deedsOf (S : List Int) (ps : List Pg) : List Deed := (planT S ps).D ++ [none] ++ [some (rootD (planT S ps))] ++ [none]

theorem planP_snoc (S : List Int) {ps : List Pg} {j : Nat} {p : Pg} (h : ps[j]? = some p) : planP S (ps.take (j + 1)) = layP (planP S (ps.take j)) p := by
  have hlt : j < ps.length := (List.getElem?_eq_some_iff.1 h).1
  have hj : ps[j] = p := (List.getElem?_eq_some_iff.1 h).2
  rw [List.take_succ_eq_append_getElem hlt, hj, planP, List.foldl_append]
  rfl
theorem foldl_len (ps : List Pg) (x : Plan) : (ps.foldl layP x).D.length = x.D.length + ps.length := by
  induction ps generalizing x with
  | nil => rfl
  | cons p r ih =>
    rw [List.foldl_cons, ih]
    simp [layP]
    omega
theorem planP_len (S : List Int) (ps : List Pg) : (planP S ps).D.length = ps.length := by rw [planP, foldl_len]; simp
theorem deedsOf_len (S : List Int) (ps : List Pg) : (deedsOf S ps).length = ps.length + 5 := by simp [deedsOf, planT, layT, planP_len]

theorem chkFrom_ok {ps : List Pg} : ∀ {done : List Int}, chkFrom done ps = 0 → ∀ p ∈ ps, hasP p.1 = true := by
  induction ps with
  | nil => simp
  | cons p r ih =>
    intro done h q hq
    unfold chkFrom at h
    split at h
    · cases h
    · rename_i h1
      split at h
      · cases h
      · rcases List.mem_cons.1 hq with rfl | hq
        · simpa using h1
        · exact ih h q hq

section
variable {B Bp : Nat} {w : World} {s d : Nat} {pv : Value} {ps : List Pg} {S : List Int} {L : List Wr} {wv : Value}

theorem commit_bad (hp : Pgs Bp w pv ps) (hlen : ps.length < 1000) (may : Int) (hc : chk ps ≠ 0) :
    Ret Tryz.prog 99 [.pointer (some ⟨s, 0, none⟩), pv, .int .i64 may] w fun v w' => v = .tuple #[.bool false, .int .i64 (chk ps)] ∧ Keep [] w w' := by
  refine ret_of 72 Tryz.func99 rfl rfl (by simp) ?_
  refine au ?_
  refine pl_op rfl rfl (opTo_call rfl rfl rfl rfl (by decide +kernel) ((sCheck_ret hp (by omega)).mono ?_))
  rintro v w1 ⟨rfl, hk1⟩
  refine au ?_
  refine pl_val (.bool true) rfl rfl (val_int .i64 _ 0 _ rfl rfl rfl (by simp [intOp, hc]) w1) ?_
  refine au ?_
  exact rn_ret Tryz.func99 (.inr (.inr (.inr (.inr ⟨_, _, _, _, rfl, rfl, rfl, rfl⟩)))) ⟨rfl, hk1⟩

theorem commit_ret (hs : StoreV w s d) (hd : DiskV B w d S L wv) (hp : Pgs Bp w pv ps) (hlen : ps.length < 900) (hL : L.length < 900) (hg0 : 0 ≤ genS S) (hg1 : genS S < 1000000) (may : Int) (hc : chk ps = 0)
    (m : Nat) (hm : m = if may < 0 ∨ may ≥ (ps.length + 5 : Nat) then ps.length + 5 else may.toNat) :
    Ret Tryz.prog 99 [.pointer (some ⟨s, 0, none⟩), pv, .int .i64 may] w fun v w' => v = .tuple #[.bool (decide (may < 0 ∨ may ≥ (ps.length + 5 : Nat))), .int .i64 0] ∧
      ∃ wv', DiskV B w' d (doDeeds ((deedsOf S ps).take m) (S, L)).1 (doDeeds ((deedsOf S ps).take m) (S, L)).2 wv' ∧ Keep (fpD d wv) w w' ∧ ∀ k ∈ fpD d wv', k ∈ fpD d wv ∨ w.heap.size ≤ k := by
  refine ret_of 72 Tryz.func99 rfl rfl (by simp) ?_
  refine au ?_
  refine pl_op rfl rfl (opTo_call rfl rfl rfl rfl (by decide +kernel) ((sCheck_ret hp (by omega)).mono ?_))
  rintro v w1 ⟨rfl, hk1⟩
  rw [hc]
  refine au ?_
  refine pl_val (.bool false) rfl rfl (val_int .i64 _ 0 _ rfl rfl rfl rfl w1) ?_
  refine au ?_
  have hs1 : StoreV w1 s d := hk1.blk hs (by simp)
  refine pl_op rfl rfl (opTo_call rfl rfl rfl rfl (by decide +kernel) ((begin_ret hs1 (hd.keep hk1 (by simp)) hg0 hg1).mono ?_))
  rintro v w2 ⟨c, rfl, h2, hk2⟩
  have hkw2 := hk1.tr0 hk2
  have hB1 : w.heap.size ≤ w1.heap.size := hk1.size
  generalize w1.heap.size = C at *
  clear hs1 hk1 hk2
  refine au ?_
  obtain ⟨pa, pcap, hpv, _⟩ := hp.ex
  refine pl_val (.int .i64 ps.length) rfl rfl (val_pure hT (by rw [hpv]; rfl) w2) ?_
  refine au ?_
  refine rn_ind (fun q σ w' => ∃ j dv fvs, q = ps.length - j ∧ j ≤ ps.length ∧ σ = [(2, .int .i64 may), (9, .pointer (some ⟨c, 0, none⟩)), (20, pv), (21, .int .i64 ps.length), (22, .int .i64 (j : Nat))] ∧
      Keep [] w w' ∧ ComV C w' c s (planP S (ps.take j)).N (planP S (ps.take j)).K dv fvs (planP S (ps.take j)).D)
    (ps.length - 0) _ ?_ ⟨0, _, _, rfl, Nat.zero_le _, rfl, hkw2, h2⟩ ?_
  · exact ⟨rfl, rfl, rfl, rfl, rfl, trivial⟩
  clear h2 hkw2
  rintro q σ w3 ih ⟨j, dv, fvs, hq, hj, rfl, hk3, h3⟩
  refine au ?_
  rcases Nat.lt_or_ge j ps.length with hlt | hge
  · refine pl_val (.bool true) rfl rfl (val_int .i64 _ _ _ rfl rfl rfl (by simp [intOp]; omega) w3) ?_
    refine au ?_
    obtain ⟨p, hpj⟩ : ∃ p, ps[j]? = some p := ⟨_, List.getElem?_eq_getElem hlt⟩
    have hpm := List.mem_of_getElem? hpj
    have h8 := hp.wf p hpm
    have hhas := chkFrom_ok hc p hpm
    have hi : 0 ≤ p.1 ∧ p.1 < 14 := by simpa [hasP] using hhas
    obtain ⟨b, o, cap, hv', _, hr⟩ := (hp.keep hk3 (by simp)).at hpj
    refine pl_val _ rfl rfl (val_index j hT rfl (by rw [hv']; rfl) rfl rfl rfl hlt w3) ?_
    refine pl_val (.agg (pcell p).toArray) rfl rfl (val_load _ hT rfl rfl (by rw [pcell_length h8]; rfl) hr) ?_
    refine pl_op rfl rfl (opTo_alloc _ rfl zero_page ?_)
    have hk4 := hk3.alloc (.cells (pcell (0, List.replicate 8 0)).toArray 168)
    have hx4 := Blk.new w3 (pcell (0, List.replicate 8 0)) 168
    have hk34 : Keep [] w3 (w3.alloc (.cells (pcell (0, List.replicate 8 0)).toArray 168)) := (Keep.refl _ _).alloc _
    have hsz := hk3.size
    generalize (w3.alloc (.cells (pcell (0, List.replicate 8 0)).toArray 168)) = w4 at *
    refine au ?_
    refine pl_op rfl rfl (opTo_store _ rfl rfl rfl rfl (by rw [pcell_length h8]; decide +kernel) hx4 (by rw [pcell_length h8]; decide) (pcell_one _) ?_)
    rw [splice_all (by rw [pcell_length h8]; rfl)]
    have hk5 := hk4.setRow w3.heap.size (pcell p).toArray (.inr hsz)
    have hx5 := hx4.set (pcell p)
    have hk35 := hk34.setRow w3.heap.size (pcell p).toArray (.inr (Nat.le_refl _))
    have h5 := h3.keep0 hk35
    generalize (w4.setRow w3.heap.size (pcell p).toArray) = w5 at *
    generalize w3.heap.size = x at hx5 ⊢
    clear hk4 hx4 hk34 hk35 h3 hk3
    refine au ?_
    have hS0 : Blk w5.drew x (pcell p) 168 := hx5
    refine rn_draw (fun w' => Blk w' x (pcell p) 168) [11] hMix ?_
    refine tk 0 ?_
    refine tk 1 ?_
    refine dr_val 2 (.int .i64 p.1) rfl (by decide +kernel) rfl rfl (fun w' hk => val_load1 hT rfl rfl rfl (hk.cell rfl)) hS0 ?_
    refine tk 3 ?_
    refine tk 4 ?_
    refine dr_val 5 (.agg (ints p.2).toArray) rfl (by decide +kernel) rfl rfl (fun w' hk => val_load _ hT rfl rfl (by rw [ints_length, h8]; rfl) (hk.range (by simp [pcell]))) hS0 ?_
    refine tk 7 ?_
    refine tk 8 ?_
    refine tk 9 ?_
    have h6 := h5.keep0 ((Keep.refl [] w5).drew)
    have hDl : (planP S (ps.take j)).D.length < 1000 := by rw [planP_len, List.length_take]; omega
    refine dr_op 6 rfl (by decide +kernel) rfl rfl (opTo_call rfl rfl rfl rfl (by decide +kernel) ((lay_ret h6 hDl h8).mono ?_))
    rintro v w7 ⟨rfl, ⟨dv7, fvs7, h7⟩, ht7⟩
    refine ⟨fun _ => ht7.typ _ _ _ hS0 (by decide), ?_⟩
    refine dr_any 10 _ rfl (by decide +kernel) rfl rfl (fun w' => val_indexArr p.1.toNat hT rfl rfl rfl rfl (by omega) (by omega) w') ?_
    refine dr_op 11 rfl (by decide +kernel) rfl rfl (opTo_store [.int .i64 (freeK (planP S (ps.take j)).K : Nat)] rfl rfl rfl rfl (by kernel_rfl) h7.blk (by rw [ccells_length h7.nlen h7.klen]; simp; omega) (by simp; rfl) ⟨fun hn => absurd (by simp) hn, ?_⟩)
    have h17 := h7.nlen
    rw [show splice (ccells s (planP S (ps.take j)).N (takeK (planP S (ps.take j)).K (freeK (planP S (ps.take j)).K : Nat)) dv7) (0 + 1 + 3 + p.1.toNat * 1) [.int .i64 (freeK (planP S (ps.take j)).K : Nat)] =
        ccells s (planP S (ps.take (j + 1))).N (planP S (ps.take (j + 1))).K dv7 by
      rw [planP_snoc S hpj, show 0 + 1 + 3 + p.1.toNat * 1 = 1 + (3 + p.1.toNat) by omega, ccells_setN _ _ (by omega)]
      rfl]
    obtain ⟨h8', ht8, _⟩ := h7.put (planP S (ps.take (j + 1))).N (planP S (ps.take (j + 1))).K (by rw [planP_snoc S hpj]; simp [layP, h17]) (by rw [planP_snoc S hpj]; exact h7.klen)
    refine dr_done (by decide +kernel) ?_
    have hk8 := ht8.keep (ht7.keep (hk5.drew) hB1) hB1
    generalize (w7.setRow c (ccells s (planP S (ps.take (j + 1))).N (planP S (ps.take (j + 1))).K dv7).toArray) = w8 at *
    refine au ?_
    refine pl_val (.int .i64 ((j + 1 : Nat) : Int)) rfl rfl (val_int .i64 j 1 _ rfl rfl rfl (by simp only [intOp]; rw [wrap_i64 (by omega) (by omega)]; rfl) w8) ?_
    refine au ?_
    refine rn_sub ?_ (ih (ps.length - (j + 1)) _ w8 (by omega) ⟨j + 1, dv7, fvs7, rfl, hlt, rfl, hk8, ?_⟩)
    · exact ⟨rfl, rfl, rfl, rfl, rfl, trivial⟩
    · rw [show (planP S (ps.take (j + 1))).D = (planP S (ps.take j)).D ++ [some (((freeK (planP S (ps.take j)).K : Nat) : Int), p.2)] by rw [planP_snoc S hpj]; rfl]
      exact h8'
  refine pl_val (.bool false) rfl rfl (val_int .i64 _ _ _ rfl rfl rfl (by simp [intOp]; omega) w3) ?_
  clear ih
  rw [List.take_of_length_le hge] at h3
  refine au ?_
  refine rn_ind (fun q σ w' => ∃ j dv fvs X, q = 2 - j ∧ j ≤ 2 ∧ σ = [(2, .int .i64 may), (9, .pointer (some ⟨c, 0, none⟩)), (38, .int .i64 (j : Nat))] ∧
      Keep [] w w' ∧ ComV C w' c s X.N X.K dv fvs X.D ∧ X = ([0, 1].take j).foldl layT (planP S ps))
    (2 - 0) _ ?_ ⟨0, _, _, planP S ps, rfl, Nat.zero_le _, rfl, hk3, h3, rfl⟩ ?_
  · exact ⟨rfl, rfl, rfl, trivial⟩
  clear h3 hk3
  rintro q σ w3 ih ⟨j, dv, fvs, X, hq, hj, rfl, hk3, h3, hX⟩
  have hDX : X.D.length = ps.length + j := by
    have : j = 0 ∨ j = 1 ∨ j = 2 := by omega
    rcases this with rfl | rfl | rfl <;> rw [hX] <;> simp [layT, planP_len]
  refine au ?_
  rcases Nat.lt_or_ge j 2 with hlt | hge
  · refine pl_val (.bool true) rfl rfl (val_int .i64 _ _ _ rfl rfl rfl (by simp [intOp]; omega) w3) ?_
    refine au ?_
    refine rn_draw (fun w' => True) [] hMix ?_
    refine tk 0 ?_
    refine tk 1 ?_
    refine tk 2 ?_
    refine tk 3 ?_
    refine tk 4 ?_
    refine tk 5 ?_
    refine tk 6 ?_
    refine tk 9 ?_
    refine tk 10 ?_
    refine tk 11 ?_
    have h4 := h3.keep0 ((Keep.refl [] w3).drew)
    refine dr_op 7 rfl (by decide +kernel) rfl rfl (opTo_call rfl rfl rfl rfl (by decide +kernel) ((partWords_ret h4 j hlt).mono ?_))
    rintro v w5 ⟨rfl, hk5⟩
    refine ⟨fun _ => trivial, ?_⟩
    have h5 := h4.keep0 hk5
    refine dr_op 8 rfl (by decide +kernel) rfl rfl (opTo_call rfl rfl rfl rfl (by decide +kernel) ((lay_ret h5 (by omega) (partW_length h3.nlen j)).mono ?_))
    rintro v w7 ⟨rfl, ⟨dv7, fvs7, h7⟩, ht7⟩
    refine ⟨fun _ => trivial, ?_⟩
    have h17 := h7.nlen
    refine dr_any 12 _ rfl (by decide +kernel) rfl rfl (fun w' => val_indexArr j hT rfl rfl rfl rfl rfl hlt w') ?_
    refine dr_op 13 rfl (by decide +kernel) rfl rfl (opTo_store [.int .i64 (freeK X.K : Nat)] rfl rfl rfl rfl (by kernel_rfl) h7.blk (by rw [ccells_length h7.nlen h7.klen]; simp; omega) (by simp; rfl) ⟨fun _ => trivial, ?_⟩)
    rw [show splice (ccells s X.N (takeK X.K (freeK X.K : Nat)) dv7) (0 + 1 + 1 + j * 1) [.int .i64 (freeK X.K : Nat)] = ccells s (layT X j).N (layT X j).K dv7 by
      rw [show 0 + 1 + 1 + j * 1 = 1 + (1 + j) by omega, ccells_setN _ _ (by omega)]
      rfl]
    obtain ⟨h8', ht8, _⟩ := h7.put (layT X j).N (layT X j).K (by simp [layT, h17]) h7.klen
    refine dr_done (by decide +kernel) ?_
    have hk8 := ht8.keep (ht7.keep ((hk3.drew).tr0 hk5) hB1) hB1
    generalize (w7.setRow c (ccells s (layT X j).N (layT X j).K dv7).toArray) = w8 at *
    refine au ?_
    refine pl_val (.int .i64 ((j + 1 : Nat) : Int)) rfl rfl (val_int .i64 j 1 _ rfl rfl rfl (by simp only [intOp]; rw [wrap_i64 (by omega) (by omega)]; rfl) w8) ?_
    refine au ?_
    refine rn_sub ?_ (ih (2 - (j + 1)) _ w8 (by omega) ⟨j + 1, dv7, fvs7, layT X j, rfl, hlt, rfl, hk8, h8', ?_⟩)
    · exact ⟨rfl, rfl, rfl, trivial⟩
    · have : j = 0 ∨ j = 1 := by omega
      rcases this with rfl | rfl <;> rw [hX] <;> rfl
  have hj2 : j = 2 := by omega
  subst hj2
  clear ih hge hj
  replace hX : X = planT S ps := hX
  subst hX
  refine pl_val (.bool false) rfl rfl (val_int .i64 _ _ _ rfl rfl rfl (by simp [intOp]) w3) ?_
  refine au ?_
  refine pl_op rfl rfl (opTo_call rfl rfl rfl rfl (by decide +kernel) ((cflush_ret h3 (by omega)).mono ?_))
  rintro v w4 ⟨rfl, ⟨dv4, fvs4, h4⟩, ht4⟩
  have hk4 := ht4.keep hk3 hB1
  refine au ?_
  refine rn_draw (fun w' => True) [] hMix ?_
  refine tk 0 ?_
  refine tk 1 ?_
  refine tk 2 ?_
  refine tk 3 ?_
  refine tk 5 ?_
  refine tk 6 ?_
  refine tk 7 ?_
  have h5 := h4.keep0 ((Keep.refl [] w4).drew)
  refine dr_op 4 rfl (by decide +kernel) rfl rfl (opTo_call rfl rfl rfl rfl (by decide +kernel) ((rootAt_ret h5).mono ?_))
  rintro v w5 ⟨rfl, rfl⟩
  refine ⟨fun _ => trivial, ?_⟩
  refine dr_op 8 rfl (by decide +kernel) rfl rfl (opTo_call rfl rfl rfl rfl (by decide +kernel) ((rootWords_ret h5).mono ?_))
  rintro v w6 ⟨rfl, hk6⟩
  refine ⟨fun _ => trivial, ?_⟩
  have h6 := h5.keep0 hk6
  have hkw6 := (hk4.drew).tr0 hk6
  refine dr_op 9 rfl (by decide +kernel) rfl rfl (opTo_call rfl rfl rfl rfl (by decide +kernel) ((cwrite_ret h6 (by simp; omega) ((planT S ps).N.getD 0 0 |>.tmod 2) (ws := rootW (planT S ps).N) rfl).mono ?_))
  rintro v w7 ⟨rfl, ⟨dv7, fvs7, h7⟩, ht7⟩
  refine ⟨fun _ => trivial, ?_⟩
  refine dr_done (by decide +kernel) ?_
  have hk7 := ht7.keep hkw6 hB1
  refine au ?_
  refine pl_op rfl rfl (opTo_call rfl rfl rfl rfl (by decide +kernel) ((cflush_ret h7 (by simp; omega)).mono ?_))
  rintro v w8 ⟨rfl, ⟨dv8, fvs8, h8⟩, ht8⟩
  have hk8 := ht8.keep hk7 hB1
  refine au ?_
  have h9 : ComV C w8 c s (planT S ps).N (planT S ps).K dv8 fvs8 (deedsOf S ps) := h8
  have hdl := deedsOf_len S ps
  have hd8 := hd.keep hk8 (by simp)
  have hs8 : StoreV w8 s d := hk8.blk hs (by simp)
  refine pl_op rfl rfl (opTo_call rfl rfl rfl rfl (by decide +kernel) ((do_ret h9 hs8 hd8 (by rw [hdl]; omega) may m (by rw [hdl]; exact hm)).mono ?_))
  rintro v w9 ⟨rfl, wv', hd9, hk9, hf9⟩
  rw [hdl]
  refine au ?_
  refine rn_ret Tryz.func99 (.inr (.inr (.inr (.inr ⟨_, _, _, _, rfl, rfl, rfl, rfl⟩)))) ⟨rfl, wv', hd9, (hk8.of0).tr hk9, fun k hk => ?_⟩
  rcases hf9 k hk with h1 | h1
  · exact .inl h1
  · exact .inr (Nat.le_trans hk8.size h1)
end
end E
end Go.Proofs.YtmplkogkphmmjagGreat

/- Plain mathematics of a commit: all or nothing. -/
namespace Go.Proofs.YtmplkogkphmmjagGreat
set_option maxRecDepth 20000
set_option maxHeartbeats 4000000
namespace E

def at_ (K : List Bool) (k : Nat) : Bool := K.getD k false

theorem at_takeK {K : List Bool} (hK : K.length = 34) (a : Int) (k : Nat) : at_ (takeK K a) k = (at_ K k || (hasB a && decide (a.toNat = k))) := by
  unfold takeK at_
  cases hb : hasB a with
  | false => simp
  | true =>
    have hi : 0 ≤ a ∧ a < 34 := by simpa [hasB] using hb
    simp only [if_true, List.getD_eq_getElem?_getD, List.getElem?_set]
    by_cases e : a.toNat = k
    · subst e
      rw [if_pos rfl, if_pos (by omega)]
      simp
    · simp [e]

theorem at_takeAll : ∀ (l : List Int) {K : List Bool}, K.length = 34 → ∀ k, at_ (takeAll K l) k = (at_ K k || l.any fun a => hasB a && decide (a.toNat = k))
  | [], K, _, k => by simp [takeAll]
  | a :: r, K, hK, k => by
    have := at_takeAll r (K := takeK K a) (by rw [takeK_length, hK]) k
    rw [takeAll, List.foldl_cons]
    rw [takeAll] at this
    rw [this, at_takeK hK, List.any_cons, Bool.or_assoc]

theorem at_K0 (k : Nat) : at_ K0 k = false := by
  unfold at_ K0
  rw [List.getD_eq_getElem?_getD, List.getElem?_replicate]
  split <;> rfl

theorem at_takenK (S : List Int) (k : Nat) : at_ (takenK S) k = ((k == 0 || k == 1) || (tabS S).any (fun a => hasB a && decide (a.toNat = k)) || (pgS S).any (fun a => hasB a && decide (a.toNat = k))) := by
  unfold takenK
  have h0 : K0.length = 34 := rfl
  rw [at_takeAll _ (by rw [takeAll_length, takeAll_length, h0]), at_takeAll _ (by rw [takeAll_length, h0]), at_takeAll _ h0]
  congr 1
  congr 1
  rw [at_K0]
  rcases k with _ | _ | k
  · decide
  · decide
  · simp [hasB]

theorem taken_root {S : List Int} {k : Nat} (hk : k < 2) : at_ (takenK S) k = true := by
  rw [at_takenK]
  have : k = 0 ∨ k = 1 := by omega
  rcases this with rfl | rfl <;> simp
theorem taken_tab {S : List Int} {a : Int} (ha : a ∈ tabS S) (hb : hasB a = true) : at_ (takenK S) a.toNat = true := by
  rw [at_takenK]
  have : (tabS S).any (fun x => hasB x && decide (x.toNat = a.toNat)) = true := List.any_eq_true.2 ⟨a, ha, by simp [hb]⟩
  simp [this]
theorem taken_pg {S : List Int} {a : Int} (ha : a ∈ pgS S) (hb : hasB a = true) : at_ (takenK S) a.toNat = true := by
  rw [at_takenK]
  have : (pgS S).any (fun x => hasB x && decide (x.toNat = a.toNat)) = true := List.any_eq_true.2 ⟨a, ha, by simp [hb]⟩
  simp [this]

theorem hasB_false_or {a : Int} : hasB a = true ∨ hasB a = false := by cases hasB a <;> simp

theorem heldS_same {S S' : List Int} {a : Int} (h : hasB a = true → a ≠ 0 → sector S' a.toNat = sector S a.toNat) : heldS S' a = heldS S a := by
  unfold heldS
  split
  · rfl
  · rename_i hn
    have h1 : hasB a = true := by
      rcases hasB_false_or (a := a) with h | h
      · exact h
      · exact absurd (.inr h) hn
    exact h h1 fun h0 => hn (.inl h0)

theorem getD_mem {l : List Int} {i : Nat} (h : i < l.length) : l.getD i 0 ∈ l := by
  rw [List.getD_eq_getElem?_getD, List.getElem?_eq_getElem h]
  exact List.getElem_mem h

/-- What leaves the taken sectors alone leaves all that is told. -/
theorem stable {S S' : List Int} (hS : S.length = 272) (h : ∀ k, k < 34 → at_ (takenK S) k = true → sector S' k = sector S k) :
    lastRoot S' = lastRoot S ∧ tabS S' = tabS S ∧ pgS S' = pgS S ∧ ∀ i, readS S' i = readS S i := by
  have h0 := h 0 (by decide) (taken_root (by decide))
  have h1 := h 1 (by decide) (taken_root (by decide))
  have e1 : rootMax S' 1 = rootMax S 1 := by
    unfold rootMax
    rw [h0]
    rfl
  have hl : lastRoot S' = lastRoot S := by
    show rootMax S' (1 + 1) = rootMax S (1 + 1)
    unfold rootMax
    rw [h1, e1]
  have ht : tabS S' = tabS S := by rw [tabS, tabS, hl]
  have t2 := tabS_length hS
  have hin : ∀ a : Int, hasB a = true → a.toNat < 34 := fun a hb => by simp [hasB] at hb; omega
  have hp : pgS S' = pgS S := by
    unfold pgS
    rw [ht, heldS_same fun hb _ => h _ (hin _ hb) (taken_tab (getD_mem (by omega)) hb), heldS_same fun hb _ => h _ (hin _ hb) (taken_tab (getD_mem (by omega)) hb)]
  refine ⟨hl, ht, hp, fun i => ?_⟩
  unfold readS
  split
  · rename_i hi
    have hi' : 0 ≤ i ∧ i < 14 := by simpa [hasP] using hi
    rw [hp]
    exact heldS_same fun hb _ => h _ (hin _ hb) (taken_pg (getD_mem (by rw [pgS_length hS]; omega)) hb)
  · rfl

/-- What a store that was left in order keeps to: nothing leads to the second root. -/
structure Good (S : List Int) : Prop where
  len : S.length = 272
  tab : ∀ a ∈ tabS S, a ≠ 1
  pg : ∀ a ∈ pgS S, a ≠ 1

structure Same (S S' : List Int) : Prop where
  good : Good S'
  gen : genS S' = genS S
  read : ∀ i, readS S' i = readS S i

theorem Same.refl {S : List Int} (h : Good S) : Same S S := ⟨h, rfl, fun _ => rfl⟩
theorem same_of {S S' : List Int} (hG : Good S) (hl : S'.length = 272) (h : ∀ k, k < 34 → at_ (takenK S) k = true → sector S' k = sector S k) : Same S S' := by
  obtain ⟨h1, h2, h3, h4⟩ := stable hG.len h
  exact ⟨⟨hl, by rw [h2]; exact hG.tab, by rw [h3]; exact hG.pg⟩, by rw [genS, genS, h1], h4⟩

theorem hd_root {S : List Int} : ∀ j, 0 ≤ hd (rootMax S j) ∧ ∀ k, k < j → hd (sector S k) ≤ hd (rootMax S j)
  | 0 => ⟨by show 0 ≤ hd z8; decide, fun k hk => by omega⟩
  | j + 1 => by
    obtain ⟨h1, h2⟩ := hd_root (S := S) j
    unfold rootMax
    split
    · rename_i hgt
      refine ⟨by omega, fun k hk => ?_⟩
      rcases Nat.lt_or_ge k j with h | h
      · have := h2 k h; omega
      · have : k = j := by omega
        rw [this]; exact Int.le_refl _
    · rename_i hgt
      refine ⟨h1, fun k hk => ?_⟩
      rcases Nat.lt_or_ge k j with h | h
      · exact h2 k h
      · have : k = j := by omega
        rw [this]; omega
theorem genS_nonneg (S : List Int) : 0 ≤ genS S := (hd_root 2).1

/-! ### Writes one behind the other -/
theorem settled_all (L : List Wr) (S : List Int) : settled (fun _ => true) L S = L.foldl upd S := by
  unfold settled stl
  simp only [if_true, List.take_length]
  have : ∀ (L : List Wr) (n : Nat) (S : List Int), (L.zipIdx n).foldl (fun S q => upd S q.1) S = L.foldl upd S := by
    intro L
    induction L with
    | nil => intro n S; rfl
    | cons p r ih => intro n S; rw [List.zipIdx_cons, List.foldl_cons, List.foldl_cons]; exact ih _ _
  exact this L 0 S

theorem foldl_upd_length {L : List Wr} (hL : ∀ p ∈ L, p.1 < 34 ∧ p.2.length = 8) {S : List Int} (hS : S.length = 272) : (L.foldl upd S).length = 272 := by
  induction L generalizing S with
  | nil => exact hS
  | cons p r ih => exact ih (fun q hq => hL q (List.mem_cons_of_mem _ hq)) (upd_length hS (hL p (by simp)))

theorem sector_foldl_other {L : List Wr} (hL : ∀ p ∈ L, p.1 < 34 ∧ p.2.length = 8) {S : List Int} (hS : S.length = 272) {k : Nat} (hk : k < 34) (hn : ∀ p ∈ L, p.1 ≠ k) : sector (L.foldl upd S) k = sector S k := by
  induction L generalizing S with
  | nil => rfl
  | cons p r ih =>
    have hp := hL p (by simp)
    rw [List.foldl_cons, ih (fun q hq => hL q (List.mem_cons_of_mem _ hq)) (upd_length hS hp) (fun q hq => hn q (List.mem_cons_of_mem _ hq)), sector_upd hS hp hk, if_neg (hn p (by simp))]

theorem sector_foldl_mem {L : List Wr} (hL : ∀ p ∈ L, p.1 < 34 ∧ p.2.length = 8) (hnd : (L.map (·.1)).Nodup) {S : List Int} (hS : S.length = 272) {p : Wr} (hp : p ∈ L) : sector (L.foldl upd S) p.1 = p.2 := by
  induction L generalizing S with
  | nil => simp at hp
  | cons q r ih =>
    have hq := hL q (by simp)
    have hr : ∀ p ∈ r, p.1 < 34 ∧ p.2.length = 8 := fun x hx => hL x (List.mem_cons_of_mem _ hx)
    rw [List.map_cons, List.nodup_cons] at hnd
    rw [List.foldl_cons]
    rcases List.mem_cons.1 hp with rfl | hp
    · rw [sector_foldl_other hr (upd_length hS hq) hq.1 (fun x hx e => hnd.1 (List.mem_map.2 ⟨x, hx, e⟩)), sector_upd hS hq hq.1, if_pos rfl]
    · exact ih hr hnd.2 (upd_length hS hq) hp

theorem settled_length {stays : Nat → Bool} {L : List Wr} (hL : ∀ p ∈ L, p.1 < 34 ∧ p.2.length = 8) {S : List Int} (hS : S.length = 272) : (settled stays L S).length = 272 := stl_length hL hS _ (Nat.le_refl _)

theorem sector_stl_other {stays : Nat → Bool} {L : List Wr} {S : List Int} {k : Nat} (hS : S.length = 272) (hL : ∀ p ∈ L, p.1 < 34 ∧ p.2.length = 8) (hk : k < 34) (hn : ∀ p ∈ L, p.1 ≠ k) : ∀ j, j ≤ L.length → sector (stl stays L j S) k = sector S k
  | 0, _ => by rw [stl_zero]
  | j + 1, h => by
    have hp : L[j]? = some L[j] := List.getElem?_eq_getElem h
    have hm : L[j] ∈ L := List.getElem_mem h
    rw [stl_succ stays hp]
    split
    · rw [sector_upd (stl_length hL hS j (by omega)) (hL _ hm) hk, if_neg (hn _ hm)]
      exact sector_stl_other hS hL hk hn j (by omega)
    · exact sector_stl_other hS hL hk hn j (by omega)

/-! ### What is planned -/
/-- The words that pages say of one, if any. -/
def lookP (ps : List Pg) (i : Nat) : Option (List Int) := ((ps.filter fun p => p.1 == (i : Int)).getLast?).map (·.2)
theorem lookP_snoc (ps : List Pg) (p : Pg) (i : Nat) : lookP (ps ++ [p]) i = if p.1 = (i : Int) then some p.2 else lookP ps i := by
  unfold lookP
  rw [List.filter_append]
  by_cases h : p.1 = (i : Int)
  · simp [h]
  · simp [h]

def cnt (K : List Bool) : Nat := K.count true

theorem cnt_takeK {K : List Bool} (a : Int) : cnt (takeK K a) ≤ cnt K + 1 := by
  unfold takeK cnt
  split
  · by_cases h : a.toNat < K.length
    · rw [List.count_set h]
      split <;> split <;> omega
    · rw [List.set_eq_of_length_le (by omega)]
      omega
  · omega
theorem cnt_takeAll : ∀ (l : List Int) (K : List Bool), cnt (takeAll K l) ≤ cnt K + l.length
  | [], K => by simp [takeAll]
  | a :: r, K => by
    have h1 := cnt_takeAll r (takeK K a)
    have h2 := cnt_takeK (K := K) a
    rw [takeAll, List.foldl_cons, List.length_cons]
    rw [takeAll] at h1
    omega
theorem cnt_takenK {S : List Int} (hS : S.length = 272) : cnt (takenK S) ≤ 18 := by
  unfold takenK
  have h1 := cnt_takeAll (pgS S) (takeAll (takeAll K0 [0, 1]) (tabS S))
  have h2 := cnt_takeAll (tabS S) (takeAll K0 [0, 1])
  have h3 : cnt (takeAll K0 [0, 1]) = 2 := by decide +kernel
  rw [pgS_length hS] at h1
  rw [tabS_length hS] at h2
  omega

theorem free_spec {K : List Bool} (hK : K.length = 34) (hc : cnt K < 34) : freeK K < 34 ∧ at_ K (freeK K) = false := by
  have hex : ∃ k, k < 34 ∧ at_ K k = false := by
    have hne : ¬ cnt K = K.length := by omega
    unfold cnt at hne
    rw [List.count_eq_length] at hne
    have : ∃ b ∈ K, ¬ true = b := by
      apply Classical.byContradiction
      intro hno
      exact hne fun b hb => Classical.byContradiction fun hn => hno ⟨b, hb, hn⟩
    obtain ⟨b, hb, hnb⟩ := this
    obtain ⟨k, hk⟩ := List.getElem?_of_mem hb
    have hlt : k < K.length := (List.getElem?_eq_some_iff.1 hk).1
    refine ⟨k, by omega, ?_⟩
    unfold at_
    rw [List.getD_eq_getElem?_getD, hk]
    cases b
    · rfl
    · exact absurd rfl hnb
  obtain ⟨k, hk, hf⟩ := hex
  unfold freeK firstOf
  cases hfind : (List.range 34).find? (fun i => !K.getD i false) with
  | none =>
    rw [List.find?_eq_none] at hfind
    have := hfind k (List.mem_range.2 hk)
    unfold at_ at hf
    rw [hf] at this
    simp at this
  | some j =>
    have h1 := List.mem_of_find?_eq_some hfind
    have h2 := List.find?_some hfind
    refine ⟨List.mem_range.1 h1, ?_⟩
    unfold at_
    simpa using h2

/-- What a plan keeps to: it writes, by W, to sectors that were free. -/
structure PInv (S : List Int) (x : Plan) (W : List Wr) : Prop where
  nlen : x.N.length = 17
  klen : x.K.length = 34
  sup : ∀ k, at_ (takenK S) k = true → at_ x.K k = true
  deeds : x.D = W.map fun p => some ((p.1 : Int), p.2)
  mem : ∀ p ∈ W, p.1 < 34 ∧ p.2.length = 8 ∧ at_ (takenK S) p.1 = false ∧ at_ x.K p.1 = true
  nd : (W.map (·.1)).Nodup
  c : cnt x.K ≤ 18 + W.length

theorem PInv.lay {S : List Int} {x : Plan} {W : List Wr} (h : PInv S x W) (hW : W.length < 16) {ws : List Int} (hw : ws.length = 8) {N' : List Int} (hN : N'.length = 17) :
    PInv S ⟨N', takeK x.K (freeK x.K : Nat), x.D ++ [some (((freeK x.K : Nat) : Int), ws)]⟩ (W ++ [(freeK x.K, ws)]) := by
  obtain ⟨h1, h2⟩ := free_spec h.klen (by have := h.c; omega)
  have hb : hasB ((freeK x.K : Nat) : Int) = true := by simp [hasB]; omega
  have hat : ∀ k, at_ (takeK x.K (freeK x.K : Nat)) k = (at_ x.K k || decide (freeK x.K = k)) := fun k => by
    rw [at_takeK h.klen, hb]
    simp
  refine ⟨hN, by simp [takeK_length, h.klen], fun k hk => by simp only [hat, h.sup k hk, Bool.true_or], by rw [h.deeds]; simp, fun p hp => ?_, ?_, ?_⟩
  · rcases List.mem_append.1 hp with hp | hp
    · obtain ⟨a, b, c, d⟩ := h.mem p hp
      exact ⟨a, b, c, by simp only [hat, d, Bool.true_or]⟩
    · simp at hp
      subst hp
      refine ⟨h1, hw, ?_, by simp [hat]⟩
      cases ht : at_ (takenK S) (freeK x.K) with
      | false => rfl
      | true => rw [h.sup _ ht] at h2; cases h2
  · rw [List.map_append, List.nodup_append]
    refine ⟨h.nd, by simp, fun a ha b hb e => ?_⟩
    simp at hb
    obtain ⟨p, hp, rfl⟩ := List.mem_map.1 ha
    have := (h.mem p hp).2.2.2
    rw [e, hb, h2] at this
    cases this
  · have := cnt_takeK (K := x.K) ((freeK x.K : Nat) : Int)
    have := h.c
    simp only [List.length_append, List.length_singleton]
    omega

theorem getD_set_same {l : List Int} {i : Nat} (h : i < l.length) (x : Int) : (l.set i x).getD i 0 = x := by
  rw [List.getD_eq_getElem?_getD, List.getElem?_set]
  simp [h]
theorem getD_set_other {l : List Int} {i j : Nat} (h : i ≠ j) (x : Int) : (l.set i x).getD j 0 = l.getD j 0 := by
  rw [List.getD_eq_getElem?_getD, List.getElem?_set]
  simp [h]

theorem cnt_ahead {done : List Int} {i : Int} (hi : hasP i = true) (hn : done.contains i = false) : cnt (ahead (done ++ [i])) = cnt (ahead done) + 1 := by
  have h14 := ahead_length done
  have hi' : 0 ≤ i ∧ i < 14 := by simpa [hasP] using hi
  have hlt : i.toNat < (ahead done).length := by omega
  have hat := ahead_at done hi
  rw [List.getElem?_eq_getElem hlt, hn] at hat
  have hat' : (ahead done)[i.toNat] = false := by simpa using hat
  rw [← ahead_set _ hi, cnt, List.count_set hlt, hat']
  simp [cnt]
theorem chkFrom_len : ∀ {ps : List Pg} {done : List Int}, chkFrom done ps = 0 → cnt (ahead done) + ps.length ≤ 14
  | [], done, _ => by
    have : cnt (ahead done) ≤ (ahead done).length := List.count_le_length
    rw [ahead_length] at this
    simpa using this
  | p :: r, done, h => by
    unfold chkFrom at h
    split at h
    · cases h
    · rename_i h1
      split at h
      · cases h
      · rename_i h2
        have := chkFrom_len h
        rw [cnt_ahead (by simpa using h1) (by simpa using h2)] at this
        simp only [List.length_cons]
        omega
theorem chk_len {ps : List Pg} (h : chk ps = 0) : ps.length ≤ 14 := by
  have := chkFrom_len h
  omega

/-- Where pages are led to. -/
def Leads (S : List Int) (ps : List Pg) (W : List Wr) (N : List Int) : Prop :=
  N.getD 0 0 = genS S + 1 ∧ ∀ i, i < 14 → match lookP ps i with
    | some ws => ∃ k, (k, ws) ∈ W ∧ N.getD (3 + i) 0 = (k : Int)
    | none => N.getD (3 + i) 0 = (pgS S).getD i 0

theorem planP_inv {S : List Int} (hS : S.length = 272) {ps : List Pg} (hc : chk ps = 0) (hwf : ∀ p ∈ ps, p.2.length = 8) : ∀ j, j ≤ ps.length → ∃ W, PInv S (planP S (ps.take j)) W ∧ W.length = j ∧ Leads S (ps.take j) W (planP S (ps.take j)).N
  | 0, _ => by
    have t2 := tabS_length hS
    have p14 := pgS_length hS
    refine ⟨[], ⟨by simp [planP, nextN, t2, p14], ?_, fun k hk => hk, rfl, by simp, by simp, ?_⟩, rfl, rfl, fun i hi => ?_⟩
    · show (takenK S).length = 34
      simp [takenK, takeAll_length, K0]
    · have := cnt_takenK hS
      simpa [planP] using this
    · obtain ⟨a, b, h⟩ := list2 t2
      show ((genS S + 1) :: (tabS S ++ pgS S)).getD (3 + i) 0 = _
      rw [h, Nat.add_comm]
      rfl
  | j + 1, hj => by
    obtain ⟨W, h1, h2, h3, h4⟩ := planP_inv hS hc hwf j (by omega)
    have h14 := chk_len hc
    obtain ⟨p, hp⟩ : ∃ p, ps[j]? = some p := ⟨_, List.getElem?_eq_getElem hj⟩
    have hpm := List.mem_of_getElem? hp
    have hi : 0 ≤ p.1 ∧ p.1 < 14 := by simpa [hasP] using chkFrom_ok hc p hpm
    have hn := h1.nlen
    rw [planP_snoc S hp]
    refine ⟨W ++ [(freeK (planP S (ps.take j)).K, p.2)], h1.lay (by omega) (hwf p hpm) (by simp [hn]), by simp [h2], ?_, fun i hi14 => ?_⟩
    · show ((planP S (ps.take j)).N.set (3 + p.1.toNat) _).getD 0 0 = _
      rw [getD_set_other (by omega)]
      exact h3
    · have e : ps.take (j + 1) = ps.take j ++ [p] := by
        have hlt : j < ps.length := hj
        rw [List.take_succ_eq_append_getElem hlt, (List.getElem?_eq_some_iff.1 hp).2]
      rw [e, lookP_snoc]
      show match (if p.1 = (i : Int) then some p.2 else lookP (ps.take j) i) with
        | some ws => ∃ k, (k, ws) ∈ W ++ [(freeK (planP S (ps.take j)).K, p.2)] ∧ ((planP S (ps.take j)).N.set (3 + p.1.toNat) (freeK (planP S (ps.take j)).K : Nat)).getD (3 + i) 0 = (k : Int)
        | none => ((planP S (ps.take j)).N.set (3 + p.1.toNat) (freeK (planP S (ps.take j)).K : Nat)).getD (3 + i) 0 = (pgS S).getD i 0
      by_cases hpi : p.1 = (i : Int)
      · rw [if_pos hpi]
        refine ⟨freeK (planP S (ps.take j)).K, by simp, ?_⟩
        rw [show 3 + p.1.toNat = 3 + i by omega, getD_set_same (by omega)]
      · rw [if_neg hpi, getD_set_other (by omega)]
        have := h4 i hi14
        split at this
        · rename_i ws hws
          obtain ⟨k, hk1, hk2⟩ := this
          exact ⟨k, List.mem_append_left _ hk1, hk2⟩
        · exact this
end E
end Go.Proofs.YtmplkogkphmmjagGreat
