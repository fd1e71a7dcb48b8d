/- Several texts in one: StoI, StoM, StoN, StoO, StoP, MoA. -/
import Derived.Test.YtdodmemljdhpnaeJ06
import Derived.Test.YtdodmemljdhpnaeJ02
/- The contract of Commit. -/
namespace Go.Proofs.Ytdodmemljdhpnae
set_option maxRecDepth 20000
set_option maxHeartbeats 4000000
namespace E
open Go.Proofs

/-- What a commit plans: the next state, what is taken, the deeds. -/
structure Plan where
  N : List Int
  K : List Bool
  D : List Deed

def layP (x : Plan) (p : Pg) : Plan := ⟨x.N.set (3 + p.1.toNat) (freeK x.K : Nat), takeK x.K (freeK x.K : Nat), x.D ++ [some (((freeK x.K : Nat) : Int), p.2)]⟩
def layT (x : Plan) (j : Nat) : Plan := ⟨x.N.set (1 + j) (freeK x.K : Nat), takeK x.K (freeK x.K : Nat), x.D ++ [some (((freeK x.K : Nat) : Int), partW x.N j)]⟩
def planP (S : List Int) (ps : List Pg) : Plan := ps.foldl layP ⟨nextN S, takenK S, []⟩
def planT (S : List Int) (ps : List Pg) : Plan := layT (layT (planP S ps) 0) 1
def rootD (x : Plan) : Int × List Int := ((x.N.getD 0 0).tmod 2, rootW x.N)
def deedsOf (S : List Int) (ps : List Pg) : List Deed := (planT S ps).D ++ [none] ++ [some (rootD (planT S ps))] ++ [none]

theorem planP_snoc (S : List Int) {ps : List Pg} {j : Nat} {p : Pg} (h : ps[j]? = some p) : planP S (ps.take (j + 1)) = layP (planP S (ps.take j)) p := by
  have hlt : j < ps.length := (List.getElem?_eq_some_iff.1 h).1
  have hj : ps[j] = p := (List.getElem?_eq_some_iff.1 h).2
  rw [List.take_succ_eq_append_getElem hlt, hj, planP, List.foldl_append]
  rfl
theorem foldl_len (ps : List Pg) (x : Plan) : (ps.foldl layP x).D.length = x.D.length + ps.length := by
  induction ps generalizing x with
  | nil => rfl
  | cons p r ih =>
    rw [List.foldl_cons, ih]
    simp [layP]
    omega
theorem planP_len (S : List Int) (ps : List Pg) : (planP S ps).D.length = ps.length := by rw [planP, foldl_len]; simp
theorem deedsOf_len (S : List Int) (ps : List Pg) : (deedsOf S ps).length = ps.length + 5 := by simp [deedsOf, planT, layT, planP_len]

theorem chkFrom_ok {ps : List Pg} : ∀ {done : List Int}, chkFrom done ps = 0 → ∀ p ∈ ps, hasP p.1 = true := by
  induction ps with
  | nil => simp
  | cons p r ih =>
    intro done h q hq
    unfold chkFrom at h
    split at h
    · cases h
    · rename_i h1
      split at h
      · cases h
      · rcases List.mem_cons.1 hq with rfl | hq
        · simpa using h1
        · exact ih h q hq

section
variable {B Bp : Nat} {w : World} {s d : Nat} {pv : Value} {ps : List Pg} {S : List Int} {L : List Wr} {wv : Value}

theorem commit_bad (hp : Pgs Bp w pv ps) (hlen : ps.length < 1000) (may : Int) (hc : chk ps ≠ 0) :
    Ret Try.prog 78 [.pointer (some ⟨s, 0, none⟩), pv, .int .i64 may] w fun v w' => v = .tuple #[.bool false, .int .i64 (chk ps)] ∧ Keep [] w w' := by
  refine ret_of 72 Try.func78 rfl rfl (by simp) ?_
  refine au ?_
  refine pl_op rfl rfl (opTo_call rfl rfl rfl rfl (by decide +kernel) ((sCheck_ret hp (by omega)).mono ?_))
  rintro v w1 ⟨rfl, hk1⟩
  refine au ?_
  refine pl_val (.bool true) rfl rfl (val_int .i64 _ 0 _ rfl rfl rfl (by simp [intOp, hc]) w1) ?_
  refine au ?_
  exact rn_ret Try.func78 (.inr (.inr (.inr (.inr ⟨_, _, _, _, rfl, rfl, rfl, rfl⟩)))) ⟨rfl, hk1⟩

theorem commit_ret (hs : StoreV w s d) (hd : DiskV B w d S L wv) (hp : Pgs Bp w pv ps) (hlen : ps.length < 900) (hL : L.length < 900) (hg0 : 0 ≤ genS S) (hg1 : genS S < 1000000) (may : Int) (hc : chk ps = 0)
    (m : Nat) (hm : m = if may < 0 ∨ may ≥ (ps.length + 5 : Nat) then ps.length + 5 else may.toNat) :
    Ret Try.prog 78 [.pointer (some ⟨s, 0, none⟩), pv, .int .i64 may] w fun v w' => v = .tuple #[.bool (decide (may < 0 ∨ may ≥ (ps.length + 5 : Nat))), .int .i64 0] ∧
      ∃ wv', DiskV B w' d (doDeeds ((deedsOf S ps).take m) (S, L)).1 (doDeeds ((deedsOf S ps).take m) (S, L)).2 wv' ∧ Keep (fpD d wv) w w' ∧ ∀ k ∈ fpD d wv', k ∈ fpD d wv ∨ w.heap.size ≤ k := by
  refine ret_of 72 Try.func78 rfl rfl (by simp) ?_
  refine au ?_
  refine pl_op rfl rfl (opTo_call rfl rfl rfl rfl (by decide +kernel) ((sCheck_ret hp (by omega)).mono ?_))
  rintro v w1 ⟨rfl, hk1⟩
  rw [hc]
  refine au ?_
  refine pl_val (.bool false) rfl rfl (val_int .i64 _ 0 _ rfl rfl rfl rfl w1) ?_
  refine au ?_
  have hs1 : StoreV w1 s d := hk1.blk hs (by simp)
  refine pl_op rfl rfl (opTo_call rfl rfl rfl rfl (by decide +kernel) ((begin_ret hs1 (hd.keep hk1 (by simp)) hg0 hg1).mono ?_))
  rintro v w2 ⟨c, rfl, h2, hk2⟩
  have hkw2 := hk1.tr0 hk2
  have hB1 : w.heap.size ≤ w1.heap.size := hk1.size
  generalize w1.heap.size = C at *
  clear hs1 hk1 hk2
  refine au ?_
  obtain ⟨pa, pcap, hpv, _⟩ := hp.ex
  refine pl_val (.int .i64 ps.length) rfl rfl (val_pure hT (by rw [hpv]; rfl) w2) ?_
  refine au ?_
  refine rn_ind (fun q σ w' => ∃ j dv fvs, q = ps.length - j ∧ j ≤ ps.length ∧ σ = [(2, .int .i64 may), (9, .pointer (some ⟨c, 0, none⟩)), (20, pv), (21, .int .i64 ps.length), (22, .int .i64 (j : Nat))] ∧
      Keep [] w w' ∧ ComV C w' c s (planP S (ps.take j)).N (planP S (ps.take j)).K dv fvs (planP S (ps.take j)).D)
    (ps.length - 0) _ ?_ ⟨0, _, _, rfl, Nat.zero_le _, rfl, hkw2, h2⟩ ?_
  · exact ⟨rfl, rfl, rfl, rfl, rfl, trivial⟩
  clear h2 hkw2
  rintro q σ w3 ih ⟨j, dv, fvs, hq, hj, rfl, hk3, h3⟩
  refine au ?_
  rcases Nat.lt_or_ge j ps.length with hlt | hge
  · refine pl_val (.bool true) rfl rfl (val_int .i64 _ _ _ rfl rfl rfl (by simp [intOp]; omega) w3) ?_
    refine au ?_
    obtain ⟨p, hpj⟩ : ∃ p, ps[j]? = some p := ⟨_, List.getElem?_eq_getElem hlt⟩
    have hpm := List.mem_of_getElem? hpj
    have h8 := hp.wf p hpm
    have hhas := chkFrom_ok hc p hpm
    have hi : 0 ≤ p.1 ∧ p.1 < 14 := by simpa [hasP] using hhas
    obtain ⟨b, o, cap, hv', _, hr⟩ := (hp.keep hk3 (by simp)).at hpj
    refine pl_val _ rfl rfl (val_index j hT rfl (by rw [hv']; rfl) rfl rfl rfl hlt w3) ?_
    refine pl_val (.agg (pcell p).toArray) rfl rfl (val_load _ hT rfl rfl (by rw [pcell_length h8]; rfl) hr) ?_
    refine pl_op rfl rfl (opTo_alloc _ rfl zero_page ?_)
    have hk4 := hk3.alloc (.cells (pcell (0, List.replicate 8 0)).toArray 144)
    have hx4 := Blk.new w3 (pcell (0, List.replicate 8 0)) 144
    have hk34 : Keep [] w3 (w3.alloc (.cells (pcell (0, List.replicate 8 0)).toArray 144)) := (Keep.refl _ _).alloc _
    have hsz := hk3.size
    generalize (w3.alloc (.cells (pcell (0, List.replicate 8 0)).toArray 144)) = w4 at *
    refine au ?_
    refine pl_op rfl rfl (opTo_store _ rfl rfl rfl rfl (by rw [pcell_length h8]; decide +kernel) hx4 (by rw [pcell_length h8]; decide) (pcell_one _) ?_)
    rw [splice_all (by rw [pcell_length h8]; rfl)]
    have hk5 := hk4.setRow w3.heap.size (pcell p).toArray (.inr hsz)
    have hx5 := hx4.set (pcell p)
    have hk35 := hk34.setRow w3.heap.size (pcell p).toArray (.inr (Nat.le_refl _))
    have h5 := h3.keep0 hk35
    generalize (w4.setRow w3.heap.size (pcell p).toArray) = w5 at *
    generalize w3.heap.size = x at hx5 ⊢
    clear hk4 hx4 hk34 hk35 h3 hk3
    refine au ?_
    have hS0 : Blk w5.drew x (pcell p) 144 := hx5
    refine rn_draw (fun w' => Blk w' x (pcell p) 144) [11] hMix ?_
    refine tk 0 ?_
    refine tk 1 ?_
    refine dr_val 2 (.int .i64 p.1) rfl (by decide +kernel) rfl rfl (fun w' hk => val_load1 hT rfl rfl rfl (hk.cell rfl)) hS0 ?_
    refine tk 3 ?_
    refine tk 4 ?_
    refine dr_val 5 (.agg (ints p.2).toArray) rfl (by decide +kernel) rfl rfl (fun w' hk => val_load _ hT rfl rfl (by rw [ints_length, h8]; rfl) (hk.range (by simp [pcell]))) hS0 ?_
    refine tk 7 ?_
    refine tk 8 ?_
    refine tk 9 ?_
    have h6 := h5.keep0 ((Keep.refl [] w5).drew)
    have hDl : (planP S (ps.take j)).D.length < 1000 := by rw [planP_len, List.length_take]; omega
    refine dr_op 6 rfl (by decide +kernel) rfl rfl (opTo_call rfl rfl rfl rfl (by decide +kernel) ((lay_ret h6 hDl h8).mono ?_))
    rintro v w7 ⟨rfl, ⟨dv7, fvs7, h7⟩, ht7⟩
    refine ⟨fun _ => ht7.typ _ _ _ hS0 (by decide), ?_⟩
    refine dr_any 10 _ rfl (by decide +kernel) rfl rfl (fun w' => val_indexArr p.1.toNat hT rfl rfl rfl rfl (by omega) (by omega) w') ?_
    refine dr_op 11 rfl (by decide +kernel) rfl rfl (opTo_store [.int .i64 (freeK (planP S (ps.take j)).K : Nat)] rfl rfl rfl rfl (by kernel_rfl) h7.blk (by rw [ccells_length h7.nlen h7.klen]; simp; omega) (by simp; rfl) ⟨fun hn => absurd (by simp) hn, ?_⟩)
    have h17 := h7.nlen
    rw [show splice (ccells s (planP S (ps.take j)).N (takeK (planP S (ps.take j)).K (freeK (planP S (ps.take j)).K : Nat)) dv7) (0 + 1 + 3 + p.1.toNat * 1) [.int .i64 (freeK (planP S (ps.take j)).K : Nat)] =
        ccells s (planP S (ps.take (j + 1))).N (planP S (ps.take (j + 1))).K dv7 by
      rw [planP_snoc S hpj, show 0 + 1 + 3 + p.1.toNat * 1 = 1 + (3 + p.1.toNat) by omega, ccells_setN _ _ (by omega)]
      rfl]
    obtain ⟨h8', ht8, _⟩ := h7.put (planP S (ps.take (j + 1))).N (planP S (ps.take (j + 1))).K (by rw [planP_snoc S hpj]; simp [layP, h17]) (by rw [planP_snoc S hpj]; exact h7.klen)
    refine dr_done (by decide +kernel) ?_
    have hk8 := ht8.keep (ht7.keep (hk5.drew) hB1) hB1
    generalize (w7.setRow c (ccells s (planP S (ps.take (j + 1))).N (planP S (ps.take (j + 1))).K dv7).toArray) = w8 at *
    refine au ?_
    refine pl_val (.int .i64 ((j + 1 : Nat) : Int)) rfl rfl (val_int .i64 j 1 _ rfl rfl rfl (by simp only [intOp]; rw [wrap_i64 (by omega) (by omega)]; rfl) w8) ?_
    refine au ?_
    refine rn_sub ?_ (ih (ps.length - (j + 1)) _ w8 (by omega) ⟨j + 1, dv7, fvs7, rfl, hlt, rfl, hk8, ?_⟩)
    · exact ⟨rfl, rfl, rfl, rfl, rfl, trivial⟩
    · rw [show (planP S (ps.take (j + 1))).D = (planP S (ps.take j)).D ++ [some (((freeK (planP S (ps.take j)).K : Nat) : Int), p.2)] by rw [planP_snoc S hpj]; rfl]
      exact h8'
  refine pl_val (.bool false) rfl rfl (val_int .i64 _ _ _ rfl rfl rfl (by simp [intOp]; omega) w3) ?_
  clear ih
  rw [List.take_of_length_le hge] at h3
  refine au ?_
  refine rn_ind (fun q σ w' => ∃ j dv fvs X, q = 2 - j ∧ j ≤ 2 ∧ σ = [(2, .int .i64 may), (9, .pointer (some ⟨c, 0, none⟩)), (38, .int .i64 (j : Nat))] ∧
      Keep [] w w' ∧ ComV C w' c s X.N X.K dv fvs X.D ∧ X = ([0, 1].take j).foldl layT (planP S ps))
    (2 - 0) _ ?_ ⟨0, _, _, planP S ps, rfl, Nat.zero_le _, rfl, hk3, h3, rfl⟩ ?_
  · exact ⟨rfl, rfl, rfl, trivial⟩
  clear h3 hk3
  rintro q σ w3 ih ⟨j, dv, fvs, X, hq, hj, rfl, hk3, h3, hX⟩
  have hDX : X.D.length = ps.length + j := by
    have : j = 0 ∨ j = 1 ∨ j = 2 := by omega
    rcases this with rfl | rfl | rfl <;> rw [hX] <;> simp [layT, planP_len]
  refine au ?_
  rcases Nat.lt_or_ge j 2 with hlt | hge
  · refine pl_val (.bool true) rfl rfl (val_int .i64 _ _ _ rfl rfl rfl (by simp [intOp]; omega) w3) ?_
    refine au ?_
    refine rn_draw (fun w' => True) [] hMix ?_
    refine tk 0 ?_
    refine tk 1 ?_
    refine tk 2 ?_
    refine tk 3 ?_
    refine tk 4 ?_
    refine tk 5 ?_
    refine tk 6 ?_
    refine tk 9 ?_
    refine tk 10 ?_
    refine tk 11 ?_
    have h4 := h3.keep0 ((Keep.refl [] w3).drew)
    refine dr_op 7 rfl (by decide +kernel) rfl rfl (opTo_call rfl rfl rfl rfl (by decide +kernel) ((partWords_ret h4 j hlt).mono ?_))
    rintro v w5 ⟨rfl, hk5⟩
    refine ⟨fun _ => trivial, ?_⟩
    have h5 := h4.keep0 hk5
    refine dr_op 8 rfl (by decide +kernel) rfl rfl (opTo_call rfl rfl rfl rfl (by decide +kernel) ((lay_ret h5 (by omega) (partW_length h3.nlen j)).mono ?_))
    rintro v w7 ⟨rfl, ⟨dv7, fvs7, h7⟩, ht7⟩
    refine ⟨fun _ => trivial, ?_⟩
    have h17 := h7.nlen
    refine dr_any 12 _ rfl (by decide +kernel) rfl rfl (fun w' => val_indexArr j hT rfl rfl rfl rfl rfl hlt w') ?_
    refine dr_op 13 rfl (by decide +kernel) rfl rfl (opTo_store [.int .i64 (freeK X.K : Nat)] rfl rfl rfl rfl (by kernel_rfl) h7.blk (by rw [ccells_length h7.nlen h7.klen]; simp; omega) (by simp; rfl) ⟨fun _ => trivial, ?_⟩)
    rw [show splice (ccells s X.N (takeK X.K (freeK X.K : Nat)) dv7) (0 + 1 + 1 + j * 1) [.int .i64 (freeK X.K : Nat)] = ccells s (layT X j).N (layT X j).K dv7 by
      rw [show 0 + 1 + 1 + j * 1 = 1 + (1 + j) by omega, ccells_setN _ _ (by omega)]
      rfl]
    obtain ⟨h8', ht8, _⟩ := h7.put (layT X j).N (layT X j).K (by simp [layT, h17]) h7.klen
    refine dr_done (by decide +kernel) ?_
    have hk8 := ht8.keep (ht7.keep ((hk3.drew).tr0 hk5) hB1) hB1
    generalize (w7.setRow c (ccells s (layT X j).N (layT X j).K dv7).toArray) = w8 at *
    refine au ?_
    refine pl_val (.int .i64 ((j + 1 : Nat) : Int)) rfl rfl (val_int .i64 j 1 _ rfl rfl rfl (by simp only [intOp]; rw [wrap_i64 (by omega) (by omega)]; rfl) w8) ?_
    refine au ?_
    refine rn_sub ?_ (ih (2 - (j + 1)) _ w8 (by omega) ⟨j + 1, dv7, fvs7, layT X j, rfl, hlt, rfl, hk8, h8', ?_⟩)
    · exact ⟨rfl, rfl, rfl, trivial⟩
    · have : j = 0 ∨ j = 1 := by omega
      rcases this with rfl | rfl <;> rw [hX] <;> rfl
  have hj2 : j = 2 := by omega
  subst hj2
  clear ih hge hj
  replace hX : X = planT S ps := hX
  subst hX
  refine pl_val (.bool false) rfl rfl (val_int .i64 _ _ _ rfl rfl rfl (by simp [intOp]) w3) ?_
  refine au ?_
  refine pl_op rfl rfl (opTo_call rfl rfl rfl rfl (by decide +kernel) ((cflush_ret h3 (by omega)).mono ?_))
  rintro v w4 ⟨rfl, ⟨dv4, fvs4, h4⟩, ht4⟩
  have hk4 := ht4.keep hk3 hB1
  refine au ?_
  refine rn_draw (fun w' => True) [] hMix ?_
  refine tk 0 ?_
  refine tk 1 ?_
  refine tk 2 ?_
  refine tk 3 ?_
  refine tk 5 ?_
  refine tk 6 ?_
  refine tk 7 ?_
  have h5 := h4.keep0 ((Keep.refl [] w4).drew)
  refine dr_op 4 rfl (by decide +kernel) rfl rfl (opTo_call rfl rfl rfl rfl (by decide +kernel) ((rootAt_ret h5).mono ?_))
  rintro v w5 ⟨rfl, rfl⟩
  refine ⟨fun _ => trivial, ?_⟩
  refine dr_op 8 rfl (by decide +kernel) rfl rfl (opTo_call rfl rfl rfl rfl (by decide +kernel) ((rootWords_ret h5).mono ?_))
  rintro v w6 ⟨rfl, hk6⟩
  refine ⟨fun _ => trivial, ?_⟩
  have h6 := h5.keep0 hk6
  have hkw6 := (hk4.drew).tr0 hk6
  refine dr_op 9 rfl (by decide +kernel) rfl rfl (opTo_call rfl rfl rfl rfl (by decide +kernel) ((cwrite_ret h6 (by simp; omega) ((planT S ps).N.getD 0 0 |>.tmod 2) (ws := rootW (planT S ps).N) rfl).mono ?_))
  rintro v w7 ⟨rfl, ⟨dv7, fvs7, h7⟩, ht7⟩
  refine ⟨fun _ => trivial, ?_⟩
  refine dr_done (by decide +kernel) ?_
  have hk7 := ht7.keep hkw6 hB1
  refine au ?_
  refine pl_op rfl rfl (opTo_call rfl rfl rfl rfl (by decide +kernel) ((cflush_ret h7 (by simp; omega)).mono ?_))
  rintro v w8 ⟨rfl, ⟨dv8, fvs8, h8⟩, ht8⟩
  have hk8 := ht8.keep hk7 hB1
  refine au ?_
  have h9 : ComV C w8 c s (planT S ps).N (planT S ps).K dv8 fvs8 (deedsOf S ps) := h8
  have hdl := deedsOf_len S ps
  have hd8 := hd.keep hk8 (by simp)
  have hs8 : StoreV w8 s d := hk8.blk hs (by simp)
  refine pl_op rfl rfl (opTo_call rfl rfl rfl rfl (by decide +kernel) ((do_ret h9 hs8 hd8 (by rw [hdl]; omega) may m (by rw [hdl]; exact hm)).mono ?_))
  rintro v w9 ⟨rfl, wv', hd9, hk9, hf9⟩
  rw [hdl]
  refine au ?_
  refine rn_ret Try.func78 (.inr (.inr (.inr (.inr ⟨_, _, _, _, rfl, rfl, rfl, rfl⟩)))) ⟨rfl, wv', hd9, (hk8.of0).tr hk9, fun k hk => ?_⟩
  rcases hf9 k hk with h1 | h1
  · exact .inl h1
  · exact .inr (Nat.le_trans hk8.size h1)
end
end E
end Go.Proofs.Ytdodmemljdhpnae

/- Plain mathematics of a commit: all or nothing. -/
namespace Go.Proofs.Ytdodmemljdhpnae
set_option maxRecDepth 20000
set_option maxHeartbeats 4000000
namespace E

def at_ (K : List Bool) (k : Nat) : Bool := K.getD k false

theorem at_takeK {K : List Bool} (hK : K.length = 34) (a : Int) (k : Nat) : at_ (takeK K a) k = (at_ K k || (hasB a && decide (a.toNat = k))) := by
  unfold takeK at_
  cases hb : hasB a with
  | false => simp
  | true =>
    have hi : 0 ≤ a ∧ a < 34 := by simpa [hasB] using hb
    simp only [if_true, List.getD_eq_getElem?_getD, List.getElem?_set]
    by_cases e : a.toNat = k
    · subst e
      rw [if_pos rfl, if_pos (by omega)]
      simp
    · simp [e]

theorem at_takeAll : ∀ (l : List Int) {K : List Bool}, K.length = 34 → ∀ k, at_ (takeAll K l) k = (at_ K k || l.any fun a => hasB a && decide (a.toNat = k))
  | [], K, _, k => by simp [takeAll]
  | a :: r, K, hK, k => by
    have := at_takeAll r (K := takeK K a) (by rw [takeK_length, hK]) k
    rw [takeAll, List.foldl_cons]
    rw [takeAll] at this
    rw [this, at_takeK hK, List.any_cons, Bool.or_assoc]

theorem at_K0 (k : Nat) : at_ K0 k = false := by
  unfold at_ K0
  rw [List.getD_eq_getElem?_getD, List.getElem?_replicate]
  split <;> rfl

theorem at_takenK (S : List Int) (k : Nat) : at_ (takenK S) k = ((k == 0 || k == 1) || (tabS S).any (fun a => hasB a && decide (a.toNat = k)) || (pgS S).any (fun a => hasB a && decide (a.toNat = k))) := by
  unfold takenK
  have h0 : K0.length = 34 := rfl
  rw [at_takeAll _ (by rw [takeAll_length, takeAll_length, h0]), at_takeAll _ (by rw [takeAll_length, h0]), at_takeAll _ h0]
  congr 1
  congr 1
  rw [at_K0]
  rcases k with _ | _ | k
  · decide
  · decide
  · simp [hasB]

theorem taken_root {S : List Int} {k : Nat} (hk : k < 2) : at_ (takenK S) k = true := by
  rw [at_takenK]
  have : k = 0 ∨ k = 1 := by omega
  rcases this with rfl | rfl <;> simp
theorem taken_tab {S : List Int} {a : Int} (ha : a ∈ tabS S) (hb : hasB a = true) : at_ (takenK S) a.toNat = true := by
  rw [at_takenK]
  have : (tabS S).any (fun x => hasB x && decide (x.toNat = a.toNat)) = true := List.any_eq_true.2 ⟨a, ha, by simp [hb]⟩
  simp [this]
theorem taken_pg {S : List Int} {a : Int} (ha : a ∈ pgS S) (hb : hasB a = true) : at_ (takenK S) a.toNat = true := by
  rw [at_takenK]
  have : (pgS S).any (fun x => hasB x && decide (x.toNat = a.toNat)) = true := List.any_eq_true.2 ⟨a, ha, by simp [hb]⟩
  simp [this]

theorem hasB_false_or {a : Int} : hasB a = true ∨ hasB a = false := by cases hasB a <;> simp

theorem heldS_same {S S' : List Int} {a : Int} (h : hasB a = true → a ≠ 0 → sector S' a.toNat = sector S a.toNat) : heldS S' a = heldS S a := by
  unfold heldS
  split
  · rfl
  · rename_i hn
    have h1 : hasB a = true := by
      rcases hasB_false_or (a := a) with h | h
      · exact h
      · exact absurd (.inr h) hn
    exact h h1 fun h0 => hn (.inl h0)

theorem getD_mem {l : List Int} {i : Nat} (h : i < l.length) : l.getD i 0 ∈ l := by
  rw [List.getD_eq_getElem?_getD, List.getElem?_eq_getElem h]
  exact List.getElem_mem h

/-- What leaves the taken sectors alone leaves all that is told. -/
theorem stable {S S' : List Int} (hS : S.length = 272) (h : ∀ k, k < 34 → at_ (takenK S) k = true → sector S' k = sector S k) :
    lastRoot S' = lastRoot S ∧ tabS S' = tabS S ∧ pgS S' = pgS S ∧ ∀ i, readS S' i = readS S i := by
  have h0 := h 0 (by decide) (taken_root (by decide))
  have h1 := h 1 (by decide) (taken_root (by decide))
  have e1 : rootMax S' 1 = rootMax S 1 := by
    unfold rootMax
    rw [h0]
    rfl
  have hl : lastRoot S' = lastRoot S := by
    show rootMax S' (1 + 1) = rootMax S (1 + 1)
    unfold rootMax
    rw [h1, e1]
  have ht : tabS S' = tabS S := by rw [tabS, tabS, hl]
  have t2 := tabS_length hS
  have hin : ∀ a : Int, hasB a = true → a.toNat < 34 := fun a hb => by simp [hasB] at hb; omega
  have hp : pgS S' = pgS S := by
    unfold pgS
    rw [ht, heldS_same fun hb _ => h _ (hin _ hb) (taken_tab (getD_mem (by omega)) hb), heldS_same fun hb _ => h _ (hin _ hb) (taken_tab (getD_mem (by omega)) hb)]
  refine ⟨hl, ht, hp, fun i => ?_⟩
  unfold readS
  split
  · rename_i hi
    have hi' : 0 ≤ i ∧ i < 14 := by simpa [hasP] using hi
    rw [hp]
    exact heldS_same fun hb _ => h _ (hin _ hb) (taken_pg (getD_mem (by rw [pgS_length hS]; omega)) hb)
  · rfl

/-- What a store that was left in order keeps to: nothing leads to the second root. -/
structure Good (S : List Int) : Prop where
  len : S.length = 272
  tab : ∀ a ∈ tabS S, a ≠ 1
  pg : ∀ a ∈ pgS S, a ≠ 1

structure Same (S S' : List Int) : Prop where
  good : Good S'
  gen : genS S' = genS S
  read : ∀ i, readS S' i = readS S i

theorem Same.refl {S : List Int} (h : Good S) : Same S S := ⟨h, rfl, fun _ => rfl⟩
theorem same_of {S S' : List Int} (hG : Good S) (hl : S'.length = 272) (h : ∀ k, k < 34 → at_ (takenK S) k = true → sector S' k = sector S k) : Same S S' := by
  obtain ⟨h1, h2, h3, h4⟩ := stable hG.len h
  exact ⟨⟨hl, by rw [h2]; exact hG.tab, by rw [h3]; exact hG.pg⟩, by rw [genS, genS, h1], h4⟩

theorem hd_root {S : List Int} : ∀ j, 0 ≤ hd (rootMax S j) ∧ ∀ k, k < j → hd (sector S k) ≤ hd (rootMax S j)
  | 0 => ⟨by show 0 ≤ hd z8; decide, fun k hk => by omega⟩
  | j + 1 => by
    obtain ⟨h1, h2⟩ := hd_root (S := S) j
    unfold rootMax
    split
    · rename_i hgt
      refine ⟨by omega, fun k hk => ?_⟩
      rcases Nat.lt_or_ge k j with h | h
      · have := h2 k h; omega
      · have : k = j := by omega
        rw [this]; exact Int.le_refl _
    · rename_i hgt
      refine ⟨h1, fun k hk => ?_⟩
      rcases Nat.lt_or_ge k j with h | h
      · exact h2 k h
      · have : k = j := by omega
        rw [this]; omega
theorem genS_nonneg (S : List Int) : 0 ≤ genS S := (hd_root 2).1

/-! ### Writes one behind the other -/
theorem settled_all (L : List Wr) (S : List Int) : settled (fun _ => true) L S = L.foldl upd S := by
  unfold settled stl
  simp only [if_true, List.take_length]
  have : ∀ (L : List Wr) (n : Nat) (S : List Int), (L.zipIdx n).foldl (fun S q => upd S q.1) S = L.foldl upd S := by
    intro L
    induction L with
    | nil => intro n S; rfl
    | cons p r ih => intro n S; rw [List.zipIdx_cons, List.foldl_cons, List.foldl_cons]; exact ih _ _
  exact this L 0 S

theorem foldl_upd_length {L : List Wr} (hL : ∀ p ∈ L, p.1 < 34 ∧ p.2.length = 8) {S : List Int} (hS : S.length = 272) : (L.foldl upd S).length = 272 := by
  induction L generalizing S with
  | nil => exact hS
  | cons p r ih => exact ih (fun q hq => hL q (List.mem_cons_of_mem _ hq)) (upd_length hS (hL p (by simp)))

theorem sector_foldl_other {L : List Wr} (hL : ∀ p ∈ L, p.1 < 34 ∧ p.2.length = 8) {S : List Int} (hS : S.length = 272) {k : Nat} (hk : k < 34) (hn : ∀ p ∈ L, p.1 ≠ k) : sector (L.foldl upd S) k = sector S k := by
  induction L generalizing S with
  | nil => rfl
  | cons p r ih =>
    have hp := hL p (by simp)
    rw [List.foldl_cons, ih (fun q hq => hL q (List.mem_cons_of_mem _ hq)) (upd_length hS hp) (fun q hq => hn q (List.mem_cons_of_mem _ hq)), sector_upd hS hp hk, if_neg (hn p (by simp))]

theorem sector_foldl_mem {L : List Wr} (hL : ∀ p ∈ L, p.1 < 34 ∧ p.2.length = 8) (hnd : (L.map (·.1)).Nodup) {S : List Int} (hS : S.length = 272) {p : Wr} (hp : p ∈ L) : sector (L.foldl upd S) p.1 = p.2 := by
  induction L generalizing S with
  | nil => simp at hp
  | cons q r ih =>
    have hq := hL q (by simp)
    have hr : ∀ p ∈ r, p.1 < 34 ∧ p.2.length = 8 := fun x hx => hL x (List.mem_cons_of_mem _ hx)
    rw [List.map_cons, List.nodup_cons] at hnd
    rw [List.foldl_cons]
    rcases List.mem_cons.1 hp with rfl | hp
    · rw [sector_foldl_other hr (upd_length hS hq) hq.1 (fun x hx e => hnd.1 (List.mem_map.2 ⟨x, hx, e⟩)), sector_upd hS hq hq.1, if_pos rfl]
    · exact ih hr hnd.2 (upd_length hS hq) hp

theorem settled_length {stays : Nat → Bool} {L : List Wr} (hL : ∀ p ∈ L, p.1 < 34 ∧ p.2.length = 8) {S : List Int} (hS : S.length = 272) : (settled stays L S).length = 272 := stl_length hL hS _ (Nat.le_refl _)

theorem sector_stl_other {stays : Nat → Bool} {L : List Wr} {S : List Int} {k : Nat} (hS : S.length = 272) (hL : ∀ p ∈ L, p.1 < 34 ∧ p.2.length = 8) (hk : k < 34) (hn : ∀ p ∈ L, p.1 ≠ k) : ∀ j, j ≤ L.length → sector (stl stays L j S) k = sector S k
  | 0, _ => by rw [stl_zero]
  | j + 1, h => by
    have hp : L[j]? = some L[j] := List.getElem?_eq_getElem h
    have hm : L[j] ∈ L := List.getElem_mem h
    rw [stl_succ stays hp]
    split
    · rw [sector_upd (stl_length hL hS j (by omega)) (hL _ hm) hk, if_neg (hn _ hm)]
      exact sector_stl_other hS hL hk hn j (by omega)
    · exact sector_stl_other hS hL hk hn j (by omega)

/-! ### What is planned -/
/-- The words that pages say of one, if any. -/
def lookP (ps : List Pg) (i : Nat) : Option (List Int) := ((ps.filter fun p => p.1 == (i : Int)).getLast?).map (·.2)
theorem lookP_snoc (ps : List Pg) (p : Pg) (i : Nat) : lookP (ps ++ [p]) i = if p.1 = (i : Int) then some p.2 else lookP ps i := by
  unfold lookP
  rw [List.filter_append]
  by_cases h : p.1 = (i : Int)
  · simp [h]
  · simp [h]

def cnt (K : List Bool) : Nat := K.count true

theorem cnt_takeK {K : List Bool} (a : Int) : cnt (takeK K a) ≤ cnt K + 1 := by
  unfold takeK cnt
  split
  · by_cases h : a.toNat < K.length
    · rw [List.count_set h]
      split <;> split <;> omega
    · rw [List.set_eq_of_length_le (by omega)]
      omega
  · omega
theorem cnt_takeAll : ∀ (l : List Int) (K : List Bool), cnt (takeAll K l) ≤ cnt K + l.length
  | [], K => by simp [takeAll]
  | a :: r, K => by
    have h1 := cnt_takeAll r (takeK K a)
    have h2 := cnt_takeK (K := K) a
    rw [takeAll, List.foldl_cons, List.length_cons]
    rw [takeAll] at h1
    omega
theorem cnt_takenK {S : List Int} (hS : S.length = 272) : cnt (takenK S) ≤ 18 := by
  unfold takenK
  have h1 := cnt_takeAll (pgS S) (takeAll (takeAll K0 [0, 1]) (tabS S))
  have h2 := cnt_takeAll (tabS S) (takeAll K0 [0, 1])
  have h3 : cnt (takeAll K0 [0, 1]) = 2 := by decide +kernel
  rw [pgS_length hS] at h1
  rw [tabS_length hS] at h2
  omega

theorem free_spec {K : List Bool} (hK : K.length = 34) (hc : cnt K < 34) : freeK K < 34 ∧ at_ K (freeK K) = false := by
  have hex : ∃ k, k < 34 ∧ at_ K k = false := by
    have hne : ¬ cnt K = K.length := by omega
    unfold cnt at hne
    rw [List.count_eq_length] at hne
    have : ∃ b ∈ K, ¬ true = b := by
      apply Classical.byContradiction
      intro hno
      exact hne fun b hb => Classical.byContradiction fun hn => hno ⟨b, hb, hn⟩
    obtain ⟨b, hb, hnb⟩ := this
    obtain ⟨k, hk⟩ := List.getElem?_of_mem hb
    have hlt : k < K.length := (List.getElem?_eq_some_iff.1 hk).1
    refine ⟨k, by omega, ?_⟩
    unfold at_
    rw [List.getD_eq_getElem?_getD, hk]
    cases b
    · rfl
    · exact absurd rfl hnb
  obtain ⟨k, hk, hf⟩ := hex
  unfold freeK firstOf
  cases hfind : (List.range 34).find? (fun i => !K.getD i false) with
  | none =>
    rw [List.find?_eq_none] at hfind
    have := hfind k (List.mem_range.2 hk)
    unfold at_ at hf
    rw [hf] at this
    simp at this
  | some j =>
    have h1 := List.mem_of_find?_eq_some hfind
    have h2 := List.find?_some hfind
    refine ⟨List.mem_range.1 h1, ?_⟩
    unfold at_
    simpa using h2

/-- What a plan keeps to: it writes, by W, to sectors that were free. -/
structure PInv (S : List Int) (x : Plan) (W : List Wr) : Prop where
  nlen : x.N.length = 17
  klen : x.K.length = 34
  sup : ∀ k, at_ (takenK S) k = true → at_ x.K k = true
  deeds : x.D = W.map fun p => some ((p.1 : Int), p.2)
  mem : ∀ p ∈ W, p.1 < 34 ∧ p.2.length = 8 ∧ at_ (takenK S) p.1 = false ∧ at_ x.K p.1 = true
  nd : (W.map (·.1)).Nodup
  c : cnt x.K ≤ 18 + W.length

theorem PInv.lay {S : List Int} {x : Plan} {W : List Wr} (h : PInv S x W) (hW : W.length < 16) {ws : List Int} (hw : ws.length = 8) {N' : List Int} (hN : N'.length = 17) :
    PInv S ⟨N', takeK x.K (freeK x.K : Nat), x.D ++ [some (((freeK x.K : Nat) : Int), ws)]⟩ (W ++ [(freeK x.K, ws)]) := by
  obtain ⟨h1, h2⟩ := free_spec h.klen (by have := h.c; omega)
  have hb : hasB ((freeK x.K : Nat) : Int) = true := by simp [hasB]; omega
  have hat : ∀ k, at_ (takeK x.K (freeK x.K : Nat)) k = (at_ x.K k || decide (freeK x.K = k)) := fun k => by
    rw [at_takeK h.klen, hb]
    simp
  refine ⟨hN, by simp [takeK_length, h.klen], fun k hk => by simp only [hat, h.sup k hk, Bool.true_or], by rw [h.deeds]; simp, fun p hp => ?_, ?_, ?_⟩
  · rcases List.mem_append.1 hp with hp | hp
    · obtain ⟨a, b, c, d⟩ := h.mem p hp
      exact ⟨a, b, c, by simp only [hat, d, Bool.true_or]⟩
    · simp at hp
      subst hp
      refine ⟨h1, hw, ?_, by simp [hat]⟩
      cases ht : at_ (takenK S) (freeK x.K) with
      | false => rfl
      | true => rw [h.sup _ ht] at h2; cases h2
  · rw [List.map_append, List.nodup_append]
    refine ⟨h.nd, by simp, fun a ha b hb e => ?_⟩
    simp at hb
    obtain ⟨p, hp, rfl⟩ := List.mem_map.1 ha
    have := (h.mem p hp).2.2.2
    rw [e, hb, h2] at this
    cases this
  · have := cnt_takeK (K := x.K) ((freeK x.K : Nat) : Int)
    have := h.c
    simp only [List.length_append, List.length_singleton]
    omega

theorem getD_set_same {l : List Int} {i : Nat} (h : i < l.length) (x : Int) : (l.set i x).getD i 0 = x := by
  rw [List.getD_eq_getElem?_getD, List.getElem?_set]
  simp [h]
theorem getD_set_other {l : List Int} {i j : Nat} (h : i ≠ j) (x : Int) : (l.set i x).getD j 0 = l.getD j 0 := by
  rw [List.getD_eq_getElem?_getD, List.getElem?_set]
  simp [h]

theorem cnt_ahead {done : List Int} {i : Int} (hi : hasP i = true) (hn : done.contains i = false) : cnt (ahead (done ++ [i])) = cnt (ahead done) + 1 := by
  have h14 := ahead_length done
  have hi' : 0 ≤ i ∧ i < 14 := by simpa [hasP] using hi
  have hlt : i.toNat < (ahead done).length := by omega
  have hat := ahead_at done hi
  rw [List.getElem?_eq_getElem hlt, hn] at hat
  have hat' : (ahead done)[i.toNat] = false := by simpa using hat
  rw [← ahead_set _ hi, cnt, List.count_set hlt, hat']
  simp [cnt]
theorem chkFrom_len : ∀ {ps : List Pg} {done : List Int}, chkFrom done ps = 0 → cnt (ahead done) + ps.length ≤ 14
  | [], done, _ => by
    have : cnt (ahead done) ≤ (ahead done).length := List.count_le_length
    rw [ahead_length] at this
    simpa using this
  | p :: r, done, h => by
    unfold chkFrom at h
    split at h
    · cases h
    · rename_i h1
      split at h
      · cases h
      · rename_i h2
        have := chkFrom_len h
        rw [cnt_ahead (by simpa using h1) (by simpa using h2)] at this
        simp only [List.length_cons]
        omega
theorem chk_len {ps : List Pg} (h : chk ps = 0) : ps.length ≤ 14 := by
  have := chkFrom_len h
  omega

/-- Where pages are led to. -/
def Leads (S : List Int) (ps : List Pg) (W : List Wr) (N : List Int) : Prop :=
  N.getD 0 0 = genS S + 1 ∧ ∀ i, i < 14 → match lookP ps i with
    | some ws => ∃ k, (k, ws) ∈ W ∧ N.getD (3 + i) 0 = (k : Int)
    | none => N.getD (3 + i) 0 = (pgS S).getD i 0

theorem planP_inv {S : List Int} (hS : S.length = 272) {ps : List Pg} (hc : chk ps = 0) (hwf : ∀ p ∈ ps, p.2.length = 8) : ∀ j, j ≤ ps.length → ∃ W, PInv S (planP S (ps.take j)) W ∧ W.length = j ∧ Leads S (ps.take j) W (planP S (ps.take j)).N
  | 0, _ => by
    have t2 := tabS_length hS
    have p14 := pgS_length hS
    refine ⟨[], ⟨by simp [planP, nextN, t2, p14], ?_, fun k hk => hk, rfl, by simp, by simp, ?_⟩, rfl, rfl, fun i hi => ?_⟩
    · show (takenK S).length = 34
      simp [takenK, takeAll_length, K0]
    · have := cnt_takenK hS
      simpa [planP] using this
    · obtain ⟨a, b, h⟩ := list2 t2
      show ((genS S + 1) :: (tabS S ++ pgS S)).getD (3 + i) 0 = _
      rw [h, Nat.add_comm]
      rfl
  | j + 1, hj => by
    obtain ⟨W, h1, h2, h3, h4⟩ := planP_inv hS hc hwf j (by omega)
    have h14 := chk_len hc
    obtain ⟨p, hp⟩ : ∃ p, ps[j]? = some p := ⟨_, List.getElem?_eq_getElem hj⟩
    have hpm := List.mem_of_getElem? hp
    have hi : 0 ≤ p.1 ∧ p.1 < 14 := by simpa [hasP] using chkFrom_ok hc p hpm
    have hn := h1.nlen
    rw [planP_snoc S hp]
    refine ⟨W ++ [(freeK (planP S (ps.take j)).K, p.2)], h1.lay (by omega) (hwf p hpm) (by simp [hn]), by simp [h2], ?_, fun i hi14 => ?_⟩
    · show ((planP S (ps.take j)).N.set (3 + p.1.toNat) _).getD 0 0 = _
      rw [getD_set_other (by omega)]
      exact h3
    · have e : ps.take (j + 1) = ps.take j ++ [p] := by
        have hlt : j < ps.length := hj
        rw [List.take_succ_eq_append_getElem hlt, (List.getElem?_eq_some_iff.1 hp).2]
      rw [e, lookP_snoc]
      show match (if p.1 = (i : Int) then some p.2 else lookP (ps.take j) i) with
        | some ws => ∃ k, (k, ws) ∈ W ++ [(freeK (planP S (ps.take j)).K, p.2)] ∧ ((planP S (ps.take j)).N.set (3 + p.1.toNat) (freeK (planP S (ps.take j)).K : Nat)).getD (3 + i) 0 = (k : Int)
        | none => ((planP S (ps.take j)).N.set (3 + p.1.toNat) (freeK (planP S (ps.take j)).K : Nat)).getD (3 + i) 0 = (pgS S).getD i 0
      by_cases hpi : p.1 = (i : Int)
      · rw [if_pos hpi]
        refine ⟨freeK (planP S (ps.take j)).K, by simp, ?_⟩
        rw [show 3 + p.1.toNat = 3 + i by omega, getD_set_same (by omega)]
      · rw [if_neg hpi, getD_set_other (by omega)]
        have := h4 i hi14
        split at this
        · rename_i ws hws
          obtain ⟨k, hk1, hk2⟩ := this
          exact ⟨k, List.mem_append_left _ hk1, hk2⟩
        · exact this
end E
end Go.Proofs.Ytdodmemljdhpnae

/- ALL OR NOTHING: what a commit leaves, by however many deeds, and whatever stays in a crash. -/
namespace Go.Proofs.Ytdodmemljdhpnae
set_option maxRecDepth 20000
set_option maxHeartbeats 4000000
namespace E

/-- A page as it is to be. -/
def newRead (S : List Int) (ps : List Pg) (i : Int) : List Int := match lookP ps i.toNat with
  | some ws => ws
  | none => readS S i

structure New (S : List Int) (ps : List Pg) (S' : List Int) : Prop where
  good : Good S'
  gen : genS S' = genS S + 1
  read : ∀ i, hasP i = true → readS S' i = newRead S ps i

theorem Same.trans {S S' S'' : List Int} (h : Same S S') (h' : Same S' S'') : Same S S'' := ⟨h'.good, h'.gen.trans h.gen, fun i => (h'.read i).trans (h.read i)⟩

theorem doDeeds_writes (W : List Wr) (hW : ∀ p ∈ W, p.1 < 34) (S : List Int) (L : List Wr) : doDeeds (W.map fun p => some ((p.1 : Int), p.2)) (S, L) = (S, L ++ W) := by
  induction W generalizing L with
  | nil => simp [doDeeds]
  | cons p r ih =>
    have hb : hasB ((p.1 : Nat) : Int) = true := by have := hW p (by simp); simp [hasB]; omega
    rw [List.map_cons, doDeeds, List.foldl_cons]
    have e : doDeed (S, L) (some ((p.1 : Int), p.2)) = (S, L ++ [p]) := by simp [doDeed, hb]
    rw [e]
    have := ih (fun q hq => hW q (List.mem_cons_of_mem _ hq)) (L ++ [p])
    rw [doDeeds] at this
    rw [this]
    simp

theorem tmod2 {g : Int} (h : 0 ≤ g) : g.tmod 2 = 0 ∨ g.tmod 2 = 1 := by
  rw [Int.tmod_eq_emod_of_nonneg h]
  omega

theorem partW_set (N : List Int) (k : Int) (_ : N.length = 17) (j : Nat) : partW (N.set 1 k) j = partW N j := by
  unfold partW
  rw [List.drop_set_of_lt (by omega)]

theorem commit_math {S : List Int} (hG : Good S) {ps : List Pg} (hc : chk ps = 0) (hwf : ∀ p ∈ ps, p.2.length = 8) :
    ∃ (W : List Wr) (r : Wr), W.length = ps.length + 2 ∧ (∀ p ∈ W, p.1 < 34 ∧ p.2.length = 8) ∧ (r.1 < 34 ∧ r.2.length = 8) ∧
      deedsOf S ps = (W.map fun p => some ((p.1 : Int), p.2)) ++ [none] ++ [some ((r.1 : Int), r.2)] ++ [none] ∧
      (∀ (V : List Wr) (stays : Nat → Bool), (∀ p ∈ V, p ∈ W) → Same S (settled stays V S)) ∧
      New S ps (upd (settled (fun _ => true) W S) r) := by
  have hS := hG.len
  obtain ⟨W, hP, hWl, hN0, hLe⟩ := planP_inv hS hc hwf ps.length (Nat.le_refl _)
  rw [List.take_of_length_le (Nat.le_refl _)] at hP hN0 hLe
  have h14 := chk_len hc
  have hn := hP.nlen
  have hP1 := hP.lay (N' := (planP S ps).N.set (1 + 0) (freeK (planP S ps).K : Nat)) (by omega) (partW_length hn 0) (by simp [hn])
  have e1 : (⟨(planP S ps).N.set (1 + 0) (freeK (planP S ps).K : Nat), takeK (planP S ps).K (freeK (planP S ps).K : Nat), (planP S ps).D ++ [some (((freeK (planP S ps).K : Nat) : Int), partW (planP S ps).N 0)]⟩ : Plan) = layT (planP S ps) 0 := rfl
  rw [e1] at hP1
  have hn1 := hP1.nlen
  have hP2 := hP1.lay (N' := (layT (planP S ps) 0).N.set (1 + 1) (freeK (layT (planP S ps) 0).K : Nat)) (by simp; omega) (partW_length hn1 1) (by simp [hn1])
  have e2 : (⟨(layT (planP S ps) 0).N.set (1 + 1) (freeK (layT (planP S ps) 0).K : Nat), takeK (layT (planP S ps) 0).K (freeK (layT (planP S ps) 0).K : Nat), (layT (planP S ps) 0).D ++ [some (((freeK (layT (planP S ps) 0).K : Nat) : Int), partW (layT (planP S ps) 0).N 1)]⟩ : Plan) = planT S ps := rfl
  rw [e2] at hP2
  have eN1 : (layT (planP S ps) 0).N = (planP S ps).N.set 1 (freeK (planP S ps).K : Nat) := rfl
  have eN2 : (planT S ps).N = ((planP S ps).N.set 1 (freeK (planP S ps).K : Nat)).set 2 (freeK (layT (planP S ps) 0).K : Nat) := rfl
  rw [eN1, partW_set _ _ hn] at hP2
  generalize hk0 : freeK (planP S ps).K = k0 at *
  generalize hk1 : freeK (layT (planP S ps) 0).K = k1 at *
  generalize hN : (planP S ps).N = N at *
  generalize hWW : W ++ [(k0, partW N 0)] ++ [(k1, partW N 1)] = V at *
  have hmem : ∀ p ∈ V, p.1 < 34 ∧ p.2.length = 8 := fun p hp => ⟨(hP2.mem p hp).1, (hP2.mem p hp).2.1⟩
  have hfree : ∀ p ∈ V, ∀ k, at_ (takenK S) k = true → p.1 ≠ k := fun p hp k hk e => by
    have := (hP2.mem p hp).2.2.1
    rw [e, hk] at this
    cases this
  have hge2 : ∀ p ∈ V, p.1 ≠ 0 ∧ p.1 ≠ 1 := fun p hp => ⟨hfree p hp 0 (taken_root (by decide)), hfree p hp 1 (taken_root (by decide))⟩
  have hm0 : (k0, partW N 0) ∈ V := by rw [← hWW]; simp
  have hm1 : (k1, partW N 1) ∈ V := by rw [← hWW]; simp
  have hgen0 : 0 ≤ genS S := genS_nonneg S
  have hNg : (planT S ps).N.getD 0 0 = genS S + 1 := by
    rw [eN2, getD_set_other (by decide), getD_set_other (by decide)]
    exact hN0
  have hroot : rootW (planT S ps).N = [genS S + 1, (k0 : Int), (k1 : Int), 0, 0, 0, 0, 0] := by
    unfold rootW
    rw [hNg, eN2, getD_set_other (by decide), getD_set_same (by omega), getD_set_same (by simp; omega)]
  obtain ⟨r, hr, hr2⟩ : ∃ r : Nat, (genS S + 1).tmod 2 = (r : Int) ∧ (r = 0 ∨ r = 1) := by
    rcases tmod2 (g := genS S + 1) (by omega) with h | h
    · exact ⟨0, h, .inl rfl⟩
    · exact ⟨1, h, .inr rfl⟩
  have hrd : rootD (planT S ps) = ((r : Int), [genS S + 1, (k0 : Int), (k1 : Int), 0, 0, 0, 0, 0]) := by
    unfold rootD
    rw [hNg, hr, hroot]
  have hrw : r < 34 ∧ [genS S + 1, (k0 : Int), (k1 : Int), 0, 0, 0, 0, 0].length = 8 := ⟨by omega, rfl⟩
  have hsame : ∀ (V' : List Wr) (stays : Nat → Bool), (∀ p ∈ V', p ∈ V) → Same S (settled stays V' S) := fun V' stays hV' =>
    same_of hG (settled_length (fun p hp => hmem p (hV' p hp)) hS) fun k hk ht =>
      sector_stl_other hS (fun p hp => hmem p (hV' p hp)) hk (fun p hp => hfree p (hV' p hp) k ht) _ (Nat.le_refl _)
  refine ⟨V, (r, [genS S + 1, (k0 : Int), (k1 : Int), 0, 0, 0, 0, 0]), by rw [← hWW]; simp [hWl], hmem, hrw, ?_, hsame, ?_⟩
  · rw [deedsOf, hP2.deeds, hrd]
  -- the new state
  have hS1 : (settled (fun _ => true) V S).length = 272 := settled_length hmem hS
  have hsec : ∀ p ∈ V, sector (settled (fun _ => true) V S) p.1 = p.2 := fun p hp => by
    rw [settled_all]
    exact sector_foldl_mem hmem hP2.nd hS hp
  have hsec0 : ∀ k, k < 34 → at_ (takenK S) k = true → sector (settled (fun _ => true) V S) k = sector S k := fun k hk ht =>
    sector_stl_other hS hmem hk (fun p hp => hfree p hp k ht) _ (Nat.le_refl _)
  generalize settled (fun _ => true) V S = S1 at *
  generalize hrww : [genS S + 1, (k0 : Int), (k1 : Int), 0, 0, 0, 0, 0] = rw_ at *
  have hupd : ∀ k, k < 34 → sector (upd S1 (r, rw_)) k = if r = k then rw_ else sector S1 k := fun k hk => sector_upd hS1 hrw hk
  have hlen2 : (upd S1 (r, rw_)).length = 272 := upd_length hS1 hrw
  generalize upd S1 (r, rw_) = S2 at *
  have hs0 := hsec0 0 (by decide) (taken_root (by decide))
  have hs1 := hsec0 1 (by decide) (taken_root (by decide))
  have hbnd := (hd_root (S := S) 2).2
  have hg : genS S = hd (rootMax S 2) := rfl
  have hhd : hd rw_ = genS S + 1 := by rw [← hrww]; rfl
  have hlast : lastRoot S2 = rw_ := by
    show rootMax S2 (0 + 1 + 1) = rw_
    have ez : hd z8 = 0 := by decide
    rcases hr2 with rfl | rfl
    · have e0 : sector S2 0 = rw_ := by rw [hupd 0 (by decide), if_pos rfl]
      have e1 : sector S2 1 = sector S 1 := by rw [hupd 1 (by decide), if_neg (by decide), hs1]
      have er : rootMax S2 (0 + 1) = rw_ := by
        unfold rootMax
        rw [e0]
        show (if hd rw_ > hd z8 then rw_ else z8) = rw_
        rw [if_pos (by omega)]
      unfold rootMax
      rw [er, e1, if_neg]
      have := hbnd 1 (by decide)
      omega
    · have e0 : sector S2 0 = sector S 0 := by rw [hupd 0 (by decide), if_neg (by decide), hs0]
      have e1 : sector S2 1 = rw_ := by rw [hupd 1 (by decide), if_pos rfl]
      have er : rootMax S2 (0 + 1) = rootMax S (0 + 1) := by
        unfold rootMax
        rw [e0]
        rfl
      have hle : hd (rootMax S (0 + 1)) ≤ genS S := by
        have h0 := hbnd 0 (by decide)
        unfold rootMax
        split
        · exact h0
        · show hd z8 ≤ _
          omega
      show rootMax S2 (0 + 1 + 1) = rw_
      rw [show rootMax S2 (0 + 1 + 1) = if hd (sector S2 (0 + 1)) > hd (rootMax S2 (0 + 1)) then sector S2 (0 + 1) else rootMax S2 (0 + 1) from rfl, er, show sector S2 (0 + 1) = rw_ from e1, if_pos (by omega)]
  have hgen2 : genS S2 = genS S + 1 := by rw [genS, hlast, hhd]
  have htab : tabS S2 = [(k0 : Int), (k1 : Int)] := by rw [tabS, hlast, ← hrww]; rfl
  have hheld : ∀ p ∈ V, heldS S2 (p.1 : Nat) = p.2 := fun p hp => by
    have h1 := hmem p hp
    have h2 := hge2 p hp
    have hb : hasB ((p.1 : Nat) : Int) = true := by simp [hasB]; omega
    unfold heldS
    rw [if_neg (by rw [hb]; simp; exact h2.1), Int.toNat_natCast, hupd _ h1.1, if_neg (by omega), hsec p hp]
  have hpg : pgS S2 = N.drop 3 := by
    unfold pgS
    rw [htab]
    show (heldS S2 (k0 : Nat) ++ heldS S2 (k1 : Nat)).take 14 = _
    have h0 := hheld _ hm0
    have h1 := hheld _ hm1
    simp only at h0 h1
    rw [h0, h1]
    obtain ⟨a, b, c, d, e, f, g, i, j, k, m, n, o, p, q, r, s, rfl⟩ := list17 hn
    rfl
  have hgetN : ∀ i, (N.drop 3).getD i 0 = N.getD (3 + i) 0 := fun i => by
    rw [List.getD_eq_getElem?_getD, List.getD_eq_getElem?_getD, List.getElem?_drop]
  have hp14 := pgS_length hS
  refine ⟨⟨hlen2, ?_, ?_⟩, hgen2, fun i hi => ?_⟩
  · rw [htab]
    intro a ha
    have h0 := (hge2 _ hm0).2
    have h1 := (hge2 _ hm1).2
    simp only at h0 h1
    simp at ha
    rcases ha with rfl | rfl <;> omega
  · rw [hpg]
    intro a ha
    obtain ⟨i, hi⟩ := List.getElem?_of_mem ha
    have hi14 : i < 14 := by
      have := (List.getElem?_eq_some_iff.1 hi).1
      simp [hn] at this
      omega
    have ha' : N.getD (3 + i) 0 = a := by rw [← hgetN, List.getD_eq_getElem?_getD, hi]; rfl
    have := hLe i hi14
    split at this
    · rename_i ws _
      obtain ⟨k, hk1, hk2⟩ := this
      have := (hge2 (k, ws) (by rw [← hWW]; simp [hk1])).2
      simp only at this
      omega
    · rw [ha'] at this
      rw [this]
      exact hG.pg _ (getD_mem (by omega))
  · have hi' : 0 ≤ i ∧ i < 14 := by simpa [hasP] using hi
    rw [readS, if_pos hi, hpg, hgetN, newRead]
    have := hLe i.toNat (by omega)
    split at this
    · rename_i ws hws
      obtain ⟨k, hk1, hk2⟩ := this
      rw [hk2, hws]
      exact hheld (k, ws) (by rw [← hWW]; simp [hk1])
    · rename_i hws
      rw [this, hws]
      show heldS S2 _ = readS S i
      rw [readS, if_pos hi]
      have hmemp : (pgS S).getD i.toNat 0 ∈ pgS S := getD_mem (by omega)
      refine heldS_same fun hb h0 => ?_
      have hne := hG.pg _ hmemp
      have hb' : 0 ≤ (pgS S).getD i.toNat 0 ∧ (pgS S).getD i.toNat 0 < 34 := by simpa [hasB] using hb
      rw [hupd _ (by omega), if_neg (by omega)]
      exact hsec0 _ (by omega) (taken_pg hmemp hb)
end E
end Go.Proofs.Ytdodmemljdhpnae

/- What the laws of a store know: a commit by its view; a store that is new; the first look; the lists that they are handed. -/
namespace Go.Proofs.Ytdodmemljdhpnae
set_option maxRecDepth 20000
set_option maxHeartbeats 4000000
namespace E
open Go.Proofs

/-! ### A commit by its view -/
theorem commit_view {S : List Int} (hG : Good S) {ps : List Pg} (hc : chk ps = 0) (hwf : ∀ p ∈ ps, p.2.length = 8) :
    (∃ S2, doDeeds ((deedsOf S ps).take (ps.length + 5)) (S, []) = (S2, []) ∧ New S ps S2) ∧
    ∀ m, m < ps.length + 5 → ∀ stays : Nat → Bool,
      (m = ps.length + 4 ∧ stays 0 = true → New S ps (settled stays (doDeeds ((deedsOf S ps).take m) (S, [])).2 (doDeeds ((deedsOf S ps).take m) (S, [])).1)) ∧
      (¬ (m = ps.length + 4 ∧ stays 0 = true) → Same S (settled stays (doDeeds ((deedsOf S ps).take m) (S, [])).2 (doDeeds ((deedsOf S ps).take m) (S, [])).1)) := by
  obtain ⟨W, r, hWl, hW, hr, hD, hsame, hnew⟩ := commit_math hG hc hwf
  have hlen : (W.map fun p => (some ((p.1 : Int), p.2) : Deed)).length = ps.length + 2 := by simp [hWl]
  have hwr := doDeeds_writes W (fun p hp => (hW p hp).1) S []
  rw [List.nil_append] at hwr
  have hb : hasB ((r.1 : Nat) : Int) = true := by have := hr.1; simp [hasB]; omega
  have h3 : doDeeds ((deedsOf S ps).take (ps.length + 3)) (S, []) = (settled (fun _ => true) W S, []) := by
    rw [hD, List.append_assoc, List.append_assoc, List.take_append, hlen, List.take_of_length_le (by omega), show ps.length + 3 - (ps.length + 2) = 1 by omega, doDeeds, List.foldl_append]
    rw [doDeeds] at hwr
    rw [hwr]
    rfl
  have h4 : doDeeds ((deedsOf S ps).take (ps.length + 4)) (S, []) = (settled (fun _ => true) W S, [r]) := by
    rw [hD, List.append_assoc, List.append_assoc, List.take_append, hlen, List.take_of_length_le (by omega), show ps.length + 4 - (ps.length + 2) = 2 by omega, doDeeds, List.foldl_append]
    rw [doDeeds] at hwr
    rw [hwr]
    show doDeed (doDeed (S, W) none) (some ((r.1 : Int), r.2)) = _
    simp [doDeed, hb]
  have h5 : doDeeds ((deedsOf S ps).take (ps.length + 5)) (S, []) = (upd (settled (fun _ => true) W S) r, []) := by
    rw [List.take_of_length_le (by rw [deedsOf_len]; omega)]
    rw [hD, List.append_assoc, List.append_assoc, doDeeds, List.foldl_append]
    rw [doDeeds] at hwr
    rw [hwr]
    show doDeed (doDeed (doDeed (S, W) none) (some ((r.1 : Int), r.2))) none = _
    simp only [doDeed, hb, if_true, List.nil_append, Int.toNat_natCast]
    rw [settled_all [_]]
    rfl
  refine ⟨⟨_, h5, hnew⟩, fun m hm stays => ?_⟩
  have hsW : Same S (settled (fun _ => true) W S) := hsame W _ fun p hp => hp
  rcases Nat.lt_or_ge m (ps.length + 3) with h | h
  · refine ⟨fun he => by omega, fun _ => ?_⟩
    have : doDeeds ((deedsOf S ps).take m) (S, []) = (S, W.take m) := by
      rw [hD, List.append_assoc, List.append_assoc, List.take_append_of_le_length (by rw [hlen]; omega), ← List.map_take]
      have := doDeeds_writes (W.take m) (fun p hp => (hW p (List.mem_of_mem_take hp)).1) S []
      rwa [List.nil_append] at this
    rw [this]
    exact hsame _ _ fun p hp => List.mem_of_mem_take hp
  · have : m = ps.length + 3 ∨ m = ps.length + 4 := by omega
    rcases this with rfl | rfl
    · rw [h3]
      exact ⟨fun he => by omega, fun _ => hsW⟩
    · rw [h4]
      have es : settled stays [r] (settled (fun _ => true) W S) = if stays 0 then upd (settled (fun _ => true) W S) r else settled (fun _ => true) W S := by
        simp [settled, stl]
      rw [es]
      refine ⟨fun he => by rw [if_pos he.2]; exact hnew, fun hn => ?_⟩
      rw [if_neg fun h0 => hn ⟨rfl, h0⟩]
      exact hsW

def S0 : List Int := List.replicate 272 0
theorem pgS0 : pgS S0 = List.replicate 14 0 := by decide +kernel
theorem genS0 : genS S0 = 0 := by decide +kernel
theorem good0 : Good S0 := by
  refine ⟨List.length_replicate, ?_, ?_⟩
  · decide +kernel
  · decide +kernel
theorem read0 (i : Int) : readS S0 i = z8 := by
  unfold readS
  split
  · rw [pgS0]
    have : (List.replicate 14 (0 : Int)).getD i.toNat 0 = 0 := by
      rw [List.getD_eq_getElem?_getD, List.getElem?_replicate]
      split <;> rfl
    rw [this]
    rfl
  · rfl

/-- The words that pages say of a page, if any. -/
def lookI (ps : List Pg) (i : Int) : Option (List Int) := ((ps.filter fun p => p.1 == i).getLast?).map (·.2)
theorem lookI_snoc (ps : List Pg) (p : Pg) (i : Int) : lookI (ps ++ [p]) i = if p.1 = i then some p.2 else lookI ps i := by
  unfold lookI
  rw [List.filter_append]
  by_cases h : p.1 = i
  · simp [h]
  · simp [h]
theorem New.look {S S' : List Int} {ps : List Pg} (h : New S ps S') (hc : chk ps = 0) (i : Int) : readS S' i = (lookI ps i).getD (readS S i) := by
  cases hi : hasP i with
  | true =>
    have hi' : 0 ≤ i ∧ i < 14 := by simpa [hasP] using hi
    rw [h.read i hi, newRead]
    have : lookP ps i.toNat = lookI ps i := by
      unfold lookP lookI
      rw [show ((i.toNat : Nat) : Int) = i by omega]
    rw [this]
    cases lookI ps i <;> rfl
  | false =>
    have hn : lookI ps i = none := by
      unfold lookI
      rw [List.filter_eq_nil_iff.2 fun p hp => ?_]
      · rfl
      · have := chkFrom_ok hc p hp
        simp only [beq_iff_eq]
        intro e
        rw [e, hi] at this
        cases this
    rw [hn]
    simp [readS, hi]

/-! ### The first look -/
def ws5 : List Int := [5, 0, 0, 0, 0, 0, 0, 0]
def ws6 : List Int := [6, 0, 0, 0, 0, 0, 0, 0]
theorem built_5 : Try.prog.built 84 [(0, Value.int .i64 5)] = some (ints ws5).toArray := by kernel_rfl
theorem built_6 : Try.prog.built 84 [(0, Value.int .i64 6)] = some (ints ws6).toArray := by kernel_rfl
theorem built_pg (i : Int) {ws : List Int} (h : ws.length = 8) : Try.prog.built 144 [(0, Value.int .i64 i), (1, Value.agg (ints ws).toArray)] = some (pcell (i, ws)).toArray := by
  obtain ⟨a, b, c, d, e, f, g, j, rfl⟩ := list8 h
  kernel_rfl
theorem slice_pg (i : Int) {ws : List Int} (h : ws.length = 8) : sliceCells Try.prog 135 1 [(0, Value.agg (pcell (i, ws)).toArray)] = some (144, (pcell (i, ws)).toArray) := by
  obtain ⟨a, b, c, d, e, f, g, j, rfl⟩ := list8 h
  kernel_rfl

theorem pgs_one (w : World) (p : Pg) (h8 : p.2.length = 8) : Pgs (w.heap.size + 1) (w.alloc (.cells (pcell p).toArray 144)) (.slice (some ⟨w.heap.size, 0, none⟩) 1 1) [p] := by
  refine ⟨⟨_, _, rfl, fun _ => ⟨_, _, rfl, Nat.lt_succ_self _, (Blk.new w (pcell p) _).range ?_⟩⟩, by simpa using h8, by rw [World.size_alloc]; exact Nat.le_refl _⟩
  simp [pcells]

end E
end Go.Proofs.Ytdodmemljdhpnae

/- The list of steps that a law of a store is handed, as it lies in memory; greatStore. -/
namespace Go.Proofs.Ytdodmemljdhpnae
set_option maxRecDepth 20000
set_option maxHeartbeats 4000000
namespace E
open Go.Proofs

/-- A step: what to do, by how many deeds, pages, a mask. -/
structure SStep where
  d : Int
  k : Int
  pv : Value
  ps : List Pg
  m : Int

def tcell (s : SStep) : List Value := [.int .i64 s.d, .int .i64 s.k, s.pv, .int .u64 s.m]
def tcells (st : List SStep) : List Value := st.flatMap tcell
theorem tcell_length (s : SStep) : (tcell s).length = 4 := rfl

structure ArgT (B : Nat) (w : World) (lv : Value) (st : List SStep) : Prop where
  ex : ∃ a cap, lv = .slice a st.length cap ∧ (st ≠ [] → ∃ b q, a = some ⟨b, q, none⟩ ∧ b < B ∧ w.rangeAt b q (tcells st))
  pgs : ∀ s ∈ st, Pgs B w s.pv s.ps
  le : B ≤ w.heap.size

theorem ArgT.keep {B : Nat} {w w' : World} {lv : Value} {st : List SStep} {fp : List Nat} (h : ArgT B w lv st) (hk : Keep fp w w') (hn : ∀ k ∈ fp, B ≤ k) : ArgT B w' lv st := by
  obtain ⟨a, cap, hv, hm⟩ := h.ex
  refine ⟨⟨a, cap, hv, fun hne => ?_⟩, fun s hs => (h.pgs s hs).keep hk hn, Nat.le_trans h.le hk.size⟩
  obtain ⟨b, q, ha, hlt, hr⟩ := hm hne
  exact ⟨b, q, ha, hlt, hk.range hr (Nat.lt_of_lt_of_le hlt h.le) fun hm => by have := hn b hm; omega⟩
theorem ArgT.at {B : Nat} {w : World} {lv : Value} {st : List SStep} (h : ArgT B w lv st) {j : Nat} {s : SStep} (hs : st[j]? = some s) :
    ∃ b q cap, lv = .slice (some ⟨b, q, none⟩) st.length cap ∧ b < B ∧ w.rangeAt b (q + j * 4) (tcell s) := by
  obtain ⟨a, cap, hv, hm⟩ := h.ex
  obtain ⟨b, q, ha, hlt, hr⟩ := hm (by intro e; simp [e] at hs)
  refine ⟨b, q, cap, by rw [hv, ha], hlt, range_sub hr (j * 4) ?_⟩
  rw [tcell_length]
  exact flat_at (fun q _ => tcell_length q) hs
theorem ArgT.form {B : Nat} {w : World} {lv : Value} {st : List SStep} (h : ArgT B w lv st) : ∃ a cap, lv = .slice a st.length cap := by
  obtain ⟨a, cap, hv, _⟩ := h.ex
  exact ⟨a, cap, hv⟩
theorem Pgs.form {B : Nat} {w : World} {v : Value} {ps : List Pg} (h : Pgs B w v ps) : ∃ a cap, v = .slice a ps.length cap := by
  obtain ⟨a, cap, hv, _⟩ := h.ex
  exact ⟨a, cap, hv⟩

def Small (st : List SStep) : Prop := st.length ≤ 60 ∧ ∀ s ∈ st, s.ps.length ≤ 30

theorem not_fp {B : Nat} {w : World} {d : Nat} {S : List Int} {L : List Wr} {wv : Value} (h : DiskV B w d S L wv) {b : Nat} {M : List Value} {e : TypeId} (hb : Blk w b M e) (he : (e == 91 || e == 159) = false) : b ∉ fpD d wv := fun hm => by
  rcases fpD_typ h b hm _ _ hb with h1 | h1 <;> simp [h1] at he

theorem lookI_take {ps : List Pg} {k : Nat} {p : Pg} (h : ps[k]? = some p) (i : Int) (x : List Int) : (lookI (ps.take (k + 1)) i).getD x = if p.1 = i then p.2 else (lookI (ps.take k) i).getD x := by
  have hlt : k < ps.length := (List.getElem?_eq_some_iff.1 h).1
  rw [List.take_succ_eq_append_getElem hlt, (List.getElem?_eq_some_iff.1 h).2, lookI_snoc]
  split <;> rfl

theorem look_len {ps : List Pg} (hwf : ∀ p ∈ ps, p.2.length = 8) (i : Int) {x : List Int} (hx : x.length = 8) : ((lookI ps i).getD x).length = 8 := by
  unfold lookI
  cases h : (ps.filter fun p => p.1 == i).getLast? with
  | none => exact hx
  | some p => exact hwf p (List.mem_filter.1 (List.mem_of_getLast? h)).1

end E
end Go.Proofs.Ytdodmemljdhpnae

/- A memory as it lies in memory; the contracts of its Load, Put, All. -/
namespace Go.Proofs.Ytdodmemljdhpnae
set_option maxRecDepth 20000
set_option maxHeartbeats 4000000
namespace E
open Go.Proofs

def mcells (s : Nat) (W : List Int) (D : List Bool) : List Value := Value.pointer (some ⟨s, 0, none⟩) :: (ints W ++ bools D)

/-- A memory at m on the store at s: its words, and in which pages they were changed. -/
structure MemV (w : World) (m s : Nat) (W : List Int) (D : List Bool) : Prop where
  blk : Blk w m (mcells s W D) 82
  wl : W.length = 112
  dl : D.length = 14

theorem MemV.keep {w w' : World} {m s : Nat} {W : List Int} {D : List Bool} {fp : List Nat} (h : MemV w m s W D) (hk : Keep fp w w') (hn : m ∉ fp) : MemV w' m s W D := ⟨hk.blk h.blk hn, h.wl, h.dl⟩

def page (W : List Int) (n : Nat) : List Int := (W.drop (n * 8)).take 8
theorem page_length {W : List Int} (h : W.length = 112) {n : Nat} (hn : n < 14) : (page W n).length = 8 := by simp [page, h]; omega

section
variable {s : Nat} {W : List Int} {D : List Bool}
theorem mcells_length (h : W.length = 112) (h' : D.length = 14) : (mcells s W D).length = 127 := by simp [mcells, ints_length, bools_length, h, h']
theorem mcells_one : ∀ u ∈ mcells s W D, u.oneCell' = true := by
  intro u hu
  rcases List.mem_cons.1 hu with rfl | hu
  · rfl
  · rcases List.mem_append.1 hu with hu | hu
    · exact ints_one _ u hu
    · exact bools_one _ u hu
theorem m_at (h : W.length = 112) {i : Nat} (hi : i < 112) : (mcells s W D)[0 + 1 + i * 1]? = some (.int .i64 (W.getD i 0)) := by
  have e : 0 + 1 + i * 1 = i + 1 := by omega
  rw [e, mcells, List.getElem?_cons_succ, List.getElem?_append_left (by rw [ints_length]; omega)]
  simp [ints, List.getD_eq_getElem?_getD, h, hi]
theorem m_atD (h : W.length = 112) (h' : D.length = 14) {i : Nat} (hi : i < 14) : (mcells s W D)[113 + i]? = some (.bool (D.getD i false)) := by
  have e : 113 + i = (112 + i) + 1 := by omega
  rw [e, mcells, List.getElem?_cons_succ, List.getElem?_append_right (by rw [ints_length]; omega), ints_length, h, Nat.add_sub_cancel_left]
  simp [bools, List.getD_eq_getElem?_getD, h', hi]
theorem m_setW (h : W.length = 112) {i : Nat} (hi : i < 112) (x : Int) : splice (mcells s W D) (0 + 1 + i * 1) [.int .i64 x] = mcells s (W.set i x) D := by
  have := splice_mid [Value.pointer (some ⟨s, 0, none⟩)] (ints W) (bools D) [.int .i64 x] i (by rw [ints_length]; simp; omega)
  rw [splice_ints W i x (by omega)] at this
  rw [show 0 + 1 + i * 1 = [Value.pointer (some ⟨s, 0, none⟩)].length + i by simp]
  simpa [mcells] using this
theorem m_setWs {i : Nat} {ws : List Int} (hi : i + ws.length ≤ W.length) : splice (mcells s W D) (1 + i) (ints ws) = mcells s (W.take i ++ ws ++ W.drop (i + ws.length)) D := by
  have := splice_mid [Value.pointer (some ⟨s, 0, none⟩)] (ints W) (bools D) (ints ws) i (by rw [ints_length, ints_length]; omega)
  rw [show splice (ints W) i (ints ws) = ints (W.take i ++ ws ++ W.drop (i + ws.length)) by simp [splice, ints, List.map_take, List.map_drop]] at this
  rw [show 1 + i = [Value.pointer (some ⟨s, 0, none⟩)].length + i by simp]
  simpa [mcells] using this
theorem m_setD (h : W.length = 112) (h' : D.length = 14) {i : Nat} (hi : i < 14) (x : Bool) : splice (mcells s W D) (0 + 113 + i * 1) [.bool x] = mcells s W (D.set i x) := by
  have := splice_mid (Value.pointer (some ⟨s, 0, none⟩) :: ints W) (bools D) [] [.bool x] i (by rw [bools_length]; simp; omega)
  rw [splice_bools D i x (by omega)] at this
  rw [show 0 + 113 + i * 1 = (Value.pointer (some ⟨s, 0, none⟩) :: ints W).length + i by simp [ints_length, h]]
  simpa [mcells] using this
theorem m_setDs (h : W.length = 112) {D' : List Bool} (h' : D'.length = D.length) : splice (mcells s W D) 113 (bools D') = mcells s W D' := by
  have := splice_mid (Value.pointer (some ⟨s, 0, none⟩) :: ints W) (bools D) [] (bools D') 0 (by rw [bools_length, bools_length]; omega)
  rw [splice_all (by rw [bools_length, bools_length, h'])] at this
  rw [show 113 = (Value.pointer (some ⟨s, 0, none⟩) :: ints W).length + 0 by simp [ints_length, h]]
  simpa [mcells] using this
theorem m_page (h : W.length = 112) {n : Nat} (hn : n < 14) : ((mcells s W D).drop (1 + n * 8)).take 8 = ints (page W n) := by
  rw [Nat.add_comm, mcells, List.drop_succ_cons, List.drop_append_of_le_length (by rw [ints_length]; omega), List.take_append_of_le_length (by rw [List.length_drop, ints_length]; omega)]
  simp [page, ints, List.map_take, List.map_drop]
theorem m_words (h : W.length = 112) : ((mcells s W D).drop 1).take 112 = ints W := by
  rw [mcells, List.drop_succ_cons, List.drop_zero, List.take_append_of_le_length (by rw [ints_length]; omega), List.take_of_length_le (by rw [ints_length]; omega)]
theorem m_D (h : W.length = 112) (h' : D.length = 14) : ((mcells s W D).drop 113).take 14 = bools D := by
  rw [mcells, List.drop_succ_cons, List.drop_append, List.drop_eq_nil_of_le (by rw [ints_length]; omega), ints_length, h, List.nil_append, List.drop_zero, List.take_of_length_le (by rw [bools_length]; omega)]
end

/-- There is such a word. -/
def hasM (i : Int) : Bool := decide (0 ≤ i) && decide (i < 112)

theorem hasM_ret (i : Int) (w : World) : Ret Try.prog 49 [.int .i64 i] w fun v w' => v = .bool (hasM i) ∧ w' = w := by
  refine ret_of 9 Try.func49 rfl rfl (by simp) ?_
  refine au ?_
  by_cases h0 : 0 ≤ i
  · refine pl_val (.bool true) rfl rfl (val_int .i64 i 0 _ rfl rfl rfl (by simp [intOp, h0]) w) ?_
    refine au ?_
    refine pl_val (.bool (decide (i < 112))) rfl rfl (val_int .i64 i 112 _ rfl rfl rfl (by simp [intOp]) w) ?_
    refine au ?_
    refine rn_ret Try.func49 (.inl ⟨_, rfl, rfl⟩) ⟨?_, rfl⟩
    simp [hasM, h0]
  · refine pl_val (.bool false) rfl rfl (val_int .i64 i 0 _ rfl rfl rfl (by simp [intOp, h0]) w) ?_
    refine au ?_
    refine rn_ret Try.func49 (.inl ⟨_, rfl, rfl⟩) ⟨?_, rfl⟩
    simp [hasM, h0]

def loadW (W : List Int) (i : Int) : Int := if hasM i then W.getD i.toNat 0 else 0
def putW (W : List Int) (i x : Int) : List Int := if hasM i then W.set i.toNat x else W
def putD (W : List Int) (D : List Bool) (i x : Int) : List Bool := if hasM i then (if W.getD i.toNat 0 = x then D else D.set (i.toNat / 8) true) else D
theorem putW_length (W : List Int) (i x : Int) : (putW W i x).length = W.length := by unfold putW; split <;> simp
theorem putD_length (W : List Int) (D : List Bool) (i x : Int) : (putD W D i x).length = D.length := by
  unfold putD
  split
  · split <;> simp
  · rfl

section
variable {w : World} {m s : Nat} {W : List Int} {D : List Bool}

theorem load_ret (h : MemV w m s W D) (i : Int) : Ret Try.prog 35 [.pointer (some ⟨m, 0, none⟩), .int .i64 i] w fun v w' => v = .int .i64 (loadW W i) ∧ w' = w := by
  refine ret_of 14 Try.func35 rfl rfl (by simp) ?_
  refine au ?_
  refine pl_op rfl rfl (opTo_call rfl rfl rfl rfl (by decide +kernel) ((hasM_ret i w).mono ?_))
  rintro v w1 ⟨rfl, rfl⟩
  cases hb : hasM i with
  | false =>
    refine au ?_
    exact rn_ret Try.func35 (.inl ⟨_, rfl, rfl⟩) ⟨by simp [loadW, hb], rfl⟩
  | true =>
    have hi : 0 ≤ i ∧ i < 112 := by simpa [hasM] using hb
    refine au ?_
    refine pl_val _ rfl rfl (val_indexArr i.toNat hT rfl rfl rfl rfl (by omega) (by omega) w1) ?_
    refine pl_val (.int .i64 (W.getD i.toNat 0)) rfl rfl (val_load1 hT rfl rfl rfl (h.blk.cell (m_at h.wl (by omega)))) ?_
    refine au ?_
    exact rn_ret Try.func35 (.inl ⟨_, rfl, rfl⟩) ⟨by simp [loadW, hb], rfl⟩

theorem put_ret (h : MemV w m s W D) (i x : Int) : Ret Try.prog 34 [.pointer (some ⟨m, 0, none⟩), .int .i64 i, .int .i64 x] w fun v w' => v = .bool (hasM i) ∧ MemV w' m s (putW W i x) (putD W D i x) ∧ Keep [m] w w' := by
  refine ret_of 30 Try.func34 rfl rfl (by simp) ?_
  refine au ?_
  refine pl_op rfl rfl (opTo_call rfl rfl rfl rfl (by decide +kernel) ((hasM_ret i w).mono ?_))
  rintro v w1 ⟨rfl, rfl⟩
  cases hb : hasM i with
  | false =>
    refine au ?_
    refine rn_ret Try.func34 (.inl ⟨_, rfl, rfl⟩) ⟨rfl, ?_, Keep.refl _ _⟩
    simpa [putW, putD, hb] using h
  | true =>
    have hi : 0 ≤ i ∧ i < 112 := by simpa [hasM] using hb
    have hI : i = ((i.toNat : Nat) : Int) := by omega
    have hlt : i.toNat < 112 := by omega
    refine au ?_
    refine pl_val _ rfl rfl (val_indexArr i.toNat hT rfl rfl rfl rfl hI (by omega) w1) ?_
    refine pl_val (.int .i64 (W.getD i.toNat 0)) rfl rfl (val_load1 hT rfl rfl rfl (h.blk.cell (m_at h.wl (by omega)))) ?_
    refine au ?_
    by_cases hx : W.getD i.toNat 0 = x
    · refine pl_val (.bool false) rfl rfl (val_int .i64 _ x _ rfl rfl rfl (by simp only [intOp, hx, bne_self_eq_false]) w1) ?_
      refine au ?_
      refine rn_ret Try.func34 (.inl ⟨_, rfl, rfl⟩) ⟨rfl, ?_, Keep.refl _ _⟩
      have e : W.set i.toNat x = W := by
        apply List.ext_getElem?
        intro j
        rw [List.getElem?_set]
        split
        · rename_i e
          subst e
          rw [if_pos (by rw [h.wl]; omega), ← hx, List.getD_eq_getElem?_getD, List.getElem?_eq_getElem (by rw [h.wl]; omega)]
          rfl
        · rfl
      simp only [putW, putD, hb, if_true, hx, e]
      exact h
    · refine pl_val (.bool true) rfl rfl (val_int .i64 _ x _ rfl rfl rfl (by simp only [intOp]; rw [show (W.getD i.toNat 0 != x) = true by simpa using hx]) w1) ?_
      refine au ?_
      refine pl_val _ rfl rfl (val_indexArr i.toNat hT rfl rfl rfl rfl hI (by omega) w1) ?_
      refine pl_op rfl rfl (opTo_store [.int .i64 x] rfl rfl rfl rfl (by kernel_rfl) h.blk (by rw [mcells_length h.wl h.dl]; simp; omega) (by simp; rfl) ?_)
      rw [m_setW h.wl hlt]
      have hk2 : Keep [m] w1 (w1.setRow m (mcells s (W.set i.toNat x) D).toArray) := (Keep.refl _ _).setRow _ _ (.inl (by simp))
      have h2 : MemV (w1.setRow m (mcells s (W.set i.toNat x) D).toArray) m s (W.set i.toNat x) D := ⟨h.blk.set _, by simpa using h.wl, h.dl⟩
      generalize (w1.setRow m (mcells s (W.set i.toNat x) D).toArray) = w2 at *
      refine au ?_
      refine pl_val (.int .i64 ((i.toNat / 8 : Nat) : Int)) rfl rfl (val_quo .i64 i 8 _ rfl rfl rfl (by decide) (by rw [hI]; exact quo8 i.toNat (by omega)) w2) ?_
      refine au ?_
      refine pl_val _ rfl rfl (val_indexArr (i.toNat / 8) hT rfl rfl rfl rfl rfl (by omega) w2) ?_
      refine pl_op rfl rfl (opTo_store [.bool true] rfl rfl rfl rfl (by kernel_rfl) h2.blk (by rw [mcells_length h2.wl h2.dl]; simp; omega) (by simp; rfl) ?_)
      rw [m_setD h2.wl h2.dl (by omega)]
      refine au ?_
      refine rn_ret Try.func34 (.inl ⟨_, rfl, rfl⟩) ⟨rfl, ?_, hk2.setRow _ _ (.inl (by simp))⟩
      simp only [putW, putD, hb, if_true, hx, if_false]
      exact ⟨h2.blk.set _, h2.wl, by simpa using h2.dl⟩

theorem cloneI_ret {b q : Nat} {cs : List Value} (hr : w.rangeAt b q cs) (hl : cs.length = 112) (h1 : ∀ u ∈ cs, u.oneCell' = true) :
    Ret Try.prog 31 [.slice (some ⟨b, q, none⟩) 112 112] w fun v w' => ∃ g cap, v = .slice (some ⟨g, 0, none⟩) 112 cap ∧ w'.ownsRow w.heap.size 2 1 v 112 cs ∧ Keep [] w w' := by
  refine ret_of 8 Try.func31 rfl rfl (by simp) ?_
  refine au ?_
  refine pl_val (.bool false) rfl rfl (val_notNil hT rfl rfl rfl w) ?_
  refine au ?_
  refine pl_op rfl rfl (opTo_buildSlice 2 [] rfl rfl (by kernel_rfl) ?_)
  have hk1 : Keep [] w (w.alloc (.cells ([] : List Value).toArray 2)) := (Keep.refl _ _).alloc _
  have hb1 : Blk (w.alloc (.cells ([] : List Value).toArray 2)) w.heap.size [] 2 := Blk.new _ _ _
  have hr1 : (w.alloc (.cells ([] : List Value).toArray 2)).rangeAt b q cs := World.rangeAt_alloc hr _
  generalize (w.alloc (.cells ([] : List Value).toArray 2)) = w1 at *
  refine au ?_
  refine pl_op rfl rfl (opTo_append w.heap.size 2 1 8 [] cs rfl rfl rfl (by decide +kernel) (by decide) ⟨rfl, .inr ⟨w.heap.size, 0, #[], rfl, Nat.le_refl _, hb1, Nat.le_refl _, by decide, rfl, rfl⟩⟩ hr1 hl h1 (by decide) (by decide) (by decide) (by have := hk1.size; omega) ?_)
  intro g cap w2 hown hgrow hat hlt
  refine au ?_
  refine rn_ret Try.func31 (.inl ⟨_, rfl, rfl⟩) ⟨g, cap, rfl, by simpa using hown, hk1.grown hgrow fun k e => ?_⟩
  simp only [Value.ownBlock, Option.some.injEq] at e
  exact .inr (by omega)

/-- A slice of 112 words, from a block's head on. -/
def Wds (w : World) (v : Value) (W : List Int) : Prop := ∃ g cap cur, v = .slice (some ⟨g, 0, none⟩) 112 cap ∧ W.length = 112 ∧ Blk w g cur 2 ∧ cur.take 112 = ints W

theorem Wds.keep {w w' : World} {v : Value} {W : List Int} {fp : List Nat} (h : Wds w v W) (hk : Keep fp w w') (hn : ∀ k L, k ∈ fp → ¬ Blk w k L 2) : Wds w' v W := by
  obtain ⟨g, cap, cur, rfl, hl, hb, ht⟩ := h
  exact ⟨g, cap, cur, rfl, hl, hk.blk hb fun hm => hn g cur hm hb, ht⟩
theorem Wds.keep0 {w w' : World} {v : Value} {W : List Int} (h : Wds w v W) (hk : Keep [] w w') : Wds w' v W := h.keep hk (by simp)
theorem Wds.at {w : World} {v : Value} {W : List Int} (h : Wds w v W) : ∃ g cap, v = .slice (some ⟨g, 0, none⟩) 112 cap ∧ g < w.heap.size ∧ w.rangeAt g 0 (ints W) ∧ ∀ k, k < 112 → w.cell? ⟨g, 0 + k * 1, none⟩ = some (.int .i64 (W.getD k 0)) := by
  obtain ⟨g, cap, cur, rfl, hl, hb, ht⟩ := h
  refine ⟨g, cap, rfl, hb.lt, hb.range (by rw [ints_length, hl, List.drop_zero]; exact ht), fun k hk => hb.cell ?_⟩
  have e : (cur.take 112)[k]? = cur[k]? := by rw [List.getElem?_take, if_pos hk]
  rw [Nat.mul_one, Nat.zero_add, ← e, ht, List.getD_eq_getElem?_getD, List.getElem?_eq_getElem (show k < W.length by omega)]
  simp only [ints, List.getElem?_map, List.getElem?_eq_getElem (show k < W.length by omega)]
  rfl

theorem owns_wds {w : World} {B g cap : Nat} {W : List Int} (h : w.ownsRow B 2 1 (.slice (some ⟨g, 0, none⟩) 112 cap) 112 (ints W)) (hl : W.length = 112) : Wds w (.slice (some ⟨g, 0, none⟩) 112 cap) W := by
  rcases h.2 with ⟨h1, _⟩ | ⟨g', cap', cur, h1, hb, hg, r⟩
  · cases h1
  · injection h1 with e1 e2 e3
    cases e1
    refine ⟨g, cap, cur.toList, rfl, hl, ?_, ?_⟩
    · unfold Blk
      rw [Array.toArray_toList]
      exact hg
    · have := r.2.2.2
      simpa using this

theorem all_ret (h : MemV w m s W D) : Ret Try.prog 25 [.pointer (some ⟨m, 0, none⟩)] w fun v w' => Wds w' v W ∧ Keep [] w w' := by
  refine ret_of 8 Try.func25 rfl rfl (by simp) ?_
  refine au ?_
  refine pl_val _ rfl rfl (val_sliceArr hT rfl rfl rfl w) ?_
  refine pl_op rfl rfl (opTo_call rfl rfl rfl rfl (by decide +kernel) ((cloneI_ret (cs := ints W) (h.blk.range (by rw [ints_length, h.wl]; exact m_words h.wl)) (by rw [ints_length, h.wl]) (ints_one W)).mono ?_))
  rintro v w1 ⟨g, cap, rfl, ho, hk⟩
  refine au ?_
  exact rn_ret Try.func25 (.inl ⟨_, rfl, rfl⟩) ⟨owns_wds ho h.wl, hk⟩
end
end E
end Go.Proofs.Ytdodmemljdhpnae
