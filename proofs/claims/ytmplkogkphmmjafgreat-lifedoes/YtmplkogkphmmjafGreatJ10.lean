/- Several texts in one: LfO, RfB, RfC, RfE, DiskA. -/
import Derived.Test.YtmplkogkphmmjafGreatJ09
import Derived.Test.YtmplkogkphmmjafGreatJ06
import Derived.Test.YtmplkogkphmmjafGreatJ01
import Derived.Test.YtmplkogkphmmjafGreatJ04
/- The document's Being: Wake, Do. -/
namespace Go.Proofs.YtmplkogkphmmjafGreat
set_option maxRecDepth 20000
set_option maxHeartbeats 4000000
namespace E
open Go.Proofs

section
variable {w0 w w1 w2 : World} {b : Nat} {W : List Is} {inp : List Int} {cv iv : Value} {r : Rws} {m k : Md} {p : Pr}
/-- What was kept is what it knows. -/
theorem Bw.putM (h : Bw w0 w b W inp cv iv r m k p) {s' c' : Value} (hk1 : Keep [] w w1) (hs : RowL w1 w.heap.size s' k.stack) (hc : RowL w1 w.heap.size c' k.cells) (hsc : Apt s' c') (hk : Keep [b] w1 w2) (hb : Blk w2 b (beC cv iv k k p { r with s := s', c := c' }) tBe) : BwT w0 w w2 b W inp cv iv r { r with s := s', c := c' } k k p := by
  have h1 := h.keep0 hk1
  have low : ∀ {v : Value} {l : List Int}, RowL w1 w.heap.size v l → RowL w2 w0.heap.size v l := fun {v l} hv => by
    have := hv.keep hk (hv.ne h1.bk neBL)
    refine ⟨this.1, ?_⟩
    rcases this.2 with h0 | ⟨g, cap, cur, e1, e2, e3⟩
    · exact .inl h0
    · exact .inr ⟨g, cap, cur, e1, Nat.le_trans h.kp.size e2, e3⟩
  have new : ∀ {u v : Value} {l l' : List Int}, RowL w w0.heap.size u l → RowL w1 w.heap.size v l' → Apt v u := fun {u v l l'} hu hv x hx hm => by
    have := (hu.lt x hm).2
    have := (hv.lt x hx).1
    omega
  refine ⟨⟨(h.kp.tr hk1).trB hk h.ge, h.ge, hb, ?_, h.inp, low hs, low hc, h1.rks.keep hk (h1.rks.ne h1.bk neBL), h1.rkc.keep hk (h1.rkc.ne h1.bk neBL), h1.ro.keep hk (h1.ro.ne h1.bk neBL), ⟨hsc, new h.rks hs, new h.rkc hs, new h.ro hs, new h.rks hc, new h.rkc hc, new h.ro hc, h.ap.kskc, h.ap.kso, h.ap.kco⟩⟩, ?_, ?_⟩
  · refine h1.cd.keepF hk fun x hx hm => ?_
    obtain ⟨L', hL'⟩ := h1.cd.blk x hx
    rw [List.mem_singleton.1 hm] at hL'
    exact Blk.ne h1.bk hL' neBR rfl
  · exact hk1.of0.trans hk fun x hx => .inl (by rw [List.mem_singleton.1 hx]; simp [fpB])
  · intro x hx
    simp only [fpB, List.mem_cons, List.mem_append] at hx ⊢
    rcases hx with h1 | h1 | h1 | h1 | h1
    · exact .inl (.inl h1)
    · exact .inl (.inr (.inl h1))
    · exact .inr (Nat.le_trans (Nat.le_refl _) (hs.lt x h1).1)
    · exact .inr (Nat.le_trans (Nat.le_refl _) (hc.lt x h1).1)
    · exact .inl (.inr (.inr (.inr (.inr h1))))
theorem bWake_ret (h : Bw w0 w b W inp cv iv r m k p) (hl : k.stack.length ≤ 1000 ∧ k.cells.length ≤ 1000) : Ret Tryz.prog 38 [.pointer (some ⟨b, 0, none⟩)] w fun v w' => v = .tuple #[] ∧ BwTo w0 w w' b W inp cv iv r k k p := by
  obtain ⟨sv, cl, ks, kc, ov⟩ := r
  refine ret_of 10 Tryz.func38 rfl rfl (by simp) ?_
  refine au ?_
  refine pl_val (.agg (mC k ks kc).toArray) rfl rfl (val_load (mC k ks kc) hT rfl rfl rfl (h.bk.range (by rfl))) ?_
  refine pl_op rfl rfl (opTo_call (fst := []) (cap := []) rfl rfl rfl rfl (by decide +kernel) ((mindCopy_ret h.rks.lies h.rkc.lies hl).mono ?_))
  rintro v w1 ⟨s', c', rfl, hs1, hc1, hsc, hk1⟩
  obtain ⟨sa, scap, rfl⟩ := hs1.form
  obtain ⟨ca, ccap, rfl⟩ := hc1.form
  refine au ?_
  refine pl_op rfl rfl (opTo_storeN (mC k (.slice sa k.stack.length scap) (.slice ca k.cells.length ccap)) rfl rfl rfl rfl size_md (h.keep0 hk1).bk (by simp [beC, mC]) (mC_one rfl rfl) ?_)
  intro w2 hs2 hk2 hb2
  refine au ?_
  exact rn_end Tryz.func38 (.inr (.inl ⟨rfl, rfl⟩)) ⟨rfl, _, h.putM hk1 hs1 hc1 hsc hk2 hb2⟩
end
/-- What a Being's Do comes to, so many instructions at most. -/
def goL (W : List Is) (inp : List Int) (kd : Int) (keep : Bool) (n : Nat) (x : Lf) : Lf × Nat := if kd = 3 then tearL W inp keep n x else runL W inp n x
theorem goL_succ (W : List Is) (inp : List Int) (kd : Int) (keep : Bool) (n : Nat) (x : Lf) : goL W inp kd keep (n + 1) x = if kd = 3 ∧ comB W x.m = true then (wakeL (stepL W inp keep x), 1) else if x.m.state = 0 then ((goL W inp kd keep n (stepL W inp true x)).1, (goL W inp kd keep n (stepL W inp true x)).2 + 1) else (x, 0) := by
  unfold goL
  by_cases h3 : kd = 3
  · rw [if_pos h3, if_pos h3]
    simp only [tearL]
    by_cases hc : comB W x.m = true
    · rw [if_pos hc, if_pos ⟨h3, hc⟩]
    · rw [if_neg hc, if_neg (show ¬ (kd = 3 ∧ comB W x.m = true) from fun h => hc h.2)]
  · rw [if_neg h3, if_neg h3, if_neg (show ¬ (kd = 3 ∧ comB W x.m = true) from fun h => h3 h.1)]
    simp only [runL]
theorem mask_one (mk : Nat) : intOp .and .u64 ((mk : Nat) : Int) 1 = some (.int .u64 ((mk % 2 : Nat) : Int)) := by
  have e2 : (BitVec.ofInt 64 ((mk : Nat) : Int) &&& BitVec.ofInt 64 1).toNat = mk % 2 := by
    have h1 : BitVec.ofInt 64 1 = 1#64 := by decide
    rw [h1, BitVec.toNat_and, BitVec.ofInt_natCast, BitVec.toNat_ofNat, BitVec.toNat_ofNat, show 1 % 2 ^ 64 = 1 by decide, Nat.and_one_is_mod]
    omega
  have e3 : intOp .and .u64 ((mk : Nat) : Int) 1 = some (.int .u64 (IntKind.u64.wrap (((BitVec.ofInt 64 ((mk : Nat) : Int) &&& BitVec.ofInt 64 1).toNat : Nat) : Int))) := rfl
  rw [e3, e2, wrap_u64 (by omega) (by omega)]
theorem bDo_ret {w0 w : World} {b c : Nat} {Q : List Is} {inp : List Int} {cv iv : Value} {r : Rws} {x : Lf} {g : Nat} (hP : Prg c Q) (h : Bw w0 w b (Q ++ [haltI]) inp cv iv r x.m x.k x.p) (hI : InvL (Q ++ [haltI]) inp c x g) (hg : g ≤ 50000) (hil : inp.length ≤ 100000) (hc48 : c ≤ 48) (s : Sp) (hf : spFault s = 0) :
    Ret Tryz.prog 15 [.pointer (some ⟨b, 0, none⟩), .agg (spC s).toArray] w fun v w' => v = .int .i64 ((doSp (Q ++ [haltI]) inp s x).2 : Nat) ∧ BwTo w0 w w' b (Q ++ [haltI]) inp cv iv r (doSp (Q ++ [haltI]) inp s x).1.m (doSp (Q ++ [haltI]) inp s x).1.k (doSp (Q ++ [haltI]) inp s x).1.p := by
  obtain ⟨kd, N, K, mk⟩ := s
  obtain ⟨f1, f2, f3, f4, f5, f6, f7⟩ := hI.fit hP
  refine ret_of 49 Tryz.func15 rfl rfl (by simp) ?_
  refine au ?_
  refine pl_op rfl rfl (opTo_boxN (spC (kd, N, K, mk)) rfl rfl rfl ?_)
  intro w1 x1 hx1 hs1 hk1 hb1
  have h1 := h.keep0 hk1
  refine au ?_
  refine pl_val _ rfl rfl (val_load1 hT rfl rfl rfl (hb1.cell rfl)) ?_
  by_cases h2 : kd = 2
  · have e : doSp (Q ++ [haltI]) inp (kd, N, K, mk) x = (wakeL x, 0) := by
      unfold doSp doL
      rw [if_pos h2]
    rw [e]
    refine ye ?_
    refine au ?_
    refine pl_op rfl rfl (opTo_call (fst := []) (cap := []) rfl rfl rfl rfl (by decide +kernel) ((bWake_ret h1 ⟨by omega, by omega⟩).mono ?_))
    rintro v w2 ⟨rfl, r2, h2'⟩
    refine au ?_
    exact rn_ret Tryz.func15 (.inl ⟨_, rfl, rfl⟩) ⟨rfl, r2, h2'.late hk1⟩
  have hN : 0 ≤ N ∧ N ≤ 3000 := by
    unfold spFault at hf
    simp only at hf
    split at hf
    · omega
    · split at hf
      · omega
      · rename_i g1 g3
        constructor
        · exact Int.not_lt.1 fun h => g3 (.inl ⟨h2, .inl h⟩)
        · exact Int.not_lt.1 fun h => g3 (.inl ⟨h2, .inr h⟩)
  obtain ⟨n, rfl⟩ : ∃ n : Nat, N = (n : Nat) := ⟨N.toNat, by omega⟩
  obtain ⟨kp, hkp⟩ : ∃ kp, kp = spKeep (kd, ((n : Nat) : Int), K, mk) := ⟨_, rfl⟩
  have e : doSp (Q ++ [haltI]) inp (kd, ((n : Nat) : Int), K, mk) x = goL (Q ++ [haltI]) inp kd kp n x := by
    unfold doSp doL goL
    rw [if_neg h2, ← hkp]
    rfl
  rw [e]
  obtain ⟨TOT, hTT⟩ : ∃ TOT, TOT = goL (Q ++ [haltI]) inp kd kp n x := ⟨_, rfl⟩
  rw [← hTT]
  refine nay ?_
  refine au ?_
  have hnx : x1 ∉ fpB b cv r := fun hm => by have := (h.own x1 hm).2; omega
  refine rn_ind (fun q σ w' => ∃ (j : Nat) (xj : Lf) (rj : Rws) (gj : Nat), j ≤ n ∧ q = n - j ∧ σ = [(0, .pointer (some ⟨b, 0, none⟩)), (3, .pointer (some ⟨x1, 0, none⟩)), (5, .int .i64 (j : Nat))] ∧ TOT = ((goL (Q ++ [haltI]) inp kd kp (n - j) xj).1, j + (goL (Q ++ [haltI]) inp kd kp (n - j) xj).2) ∧
    BwT w0 w1 w' b (Q ++ [haltI]) inp cv iv r rj xj.m xj.k xj.p ∧ InvL (Q ++ [haltI]) inp c xj gj ∧ gj ≤ g + j ∧ Blk w' x1 (spC (kd, ((n : Nat) : Int), K, mk)) 45 ∧ x1 ∉ fpB b cv rj) n _ ?_ ⟨0, x, r, g, by omega, by omega, rfl, by rw [hTT, Nat.sub_zero, Nat.zero_add], BwT.refl h1, hI, by omega, hb1, hnx⟩ ?_
  · exact ⟨rfl, rfl, rfl, trivial⟩
  rintro q σ w2 ih ⟨j, xj, rj, gj, hj, rfl, rfl, hT2, ht2, hI2, hg2, hb2, hn2⟩
  obtain ⟨f1, f2, f3, f4, f5, f6, f7⟩ := hI2.fit hP
  refine au ?_
  refine pl_val _ rfl rfl (val_load1 hT rfl rfl rfl (hb2.cell rfl)) ?_
  by_cases hjn : j < n
  rotate_left
  · refine nay ?_
    rw [show n - j = 0 by omega] at hT2
    have hT3 : TOT = (xj, j) := by
      rw [hT2]
      unfold goL
      split <;> rfl
    refine au ?_
    rw [hT3]
    exact rn_ret Tryz.func15 (.inl ⟨_, rfl, rfl⟩) ⟨rfl, rj, ht2.late hk1⟩
  refine ye ?_
  obtain ⟨m, hm⟩ : ∃ m, n - j = m + 1 := ⟨n - j - 1, by omega⟩
  rw [hm, goL_succ] at hT2
  refine auj ?_
  refine rn_block ?_
  refine rn_seq ?_
  refine rn_with (fun σ' w' => ¬ (kd = 3 ∧ comB (Q ++ [haltI]) xj.m = true) ∧ Keep [] w2 w' ∧ Sub [(0, .pointer (some ⟨b, 0, none⟩)), (3, .pointer (some ⟨x1, 0, none⟩)), (5, .int .i64 (j : Nat))] σ') ?_ ?_
  rotate_left
  · intro fin
    refine rn_seq ?_
    refine rn_plain ?_
    refine auj ?_
    refine pl_val _ rfl rfl (val_load1 hT rfl rfl rfl (hb2.cell rfl)) ?_
    by_cases h3 : kd = 3
    rotate_left
    · refine nay ?_
      refine auj ?_
      exact fin _ _ ⟨fun h => h3 h.1, Keep.refl _ _, rfl, rfl, rfl, trivial⟩
    refine ye ?_
    refine auj ?_
    refine pl_op rfl rfl (opTo_call (fst := []) (cap := []) rfl rfl rfl rfl (by decide +kernel) ((bCommits_ret ht2.1 f1).mono ?_))
    rintro v w3 ⟨rfl, hk3⟩
    cases hcm : comB (Q ++ [haltI]) xj.m with
    | false =>
      refine auj ?_
      exact fin _ _ ⟨(fun h => by rw [hcm] at h; cases h.2), hk3, rfl, rfl, rfl, trivial⟩
    | true =>
      rw [if_pos ⟨h3, hcm⟩] at hT2
      have ht3 := ht2.keep0 hk3
      have hb3 := hk3.blk hb2 (by simp)
      have hst : ∀ {w4 : World}, Keep [] w3 w4 → Ret Tryz.prog 40 [.pointer (some ⟨b, 0, none⟩), .bool kp] w4 fun v w' => v = .bool (decide (xj.m.state = 0)) ∧ BwTo w0 w4 w' b (Q ++ [haltI]) inp cv iv rj (stepL (Q ++ [haltI]) inp kp xj).m (stepL (Q ++ [haltI]) inp kp xj).k (stepL (Q ++ [haltI]) inp kp xj).p := fun {w4} hk => bStep_ret hP (ht3.1.keep0 hk) f1 hil (by omega) (by omega) kp
      obtain ⟨g4, _, hg4, hI4⟩ := hI2.step kp
      obtain ⟨_, _, _, _, s5, s6, _⟩ := hI4.fit hP
      have hkeq : kp = (K == 0 || (K == 1 && mk % 2 == 1)) := hkp
      refine au ?_
      refine pl_val _ rfl rfl (val_load1 hT rfl rfl rfl (hb3.cell rfl)) ?_
      by_cases hK0 : K = 0
      · have hk1' : kp = true := by rw [hkeq, hK0]; rfl
        rw [hk1'] at hst hT2 s5 s6
        refine ye ?_
        refine au ?_
        refine pl_op rfl rfl (opTo_call (fst := []) (cap := []) rfl rfl rfl rfl (by decide +kernel) ((hst (Keep.refl _ _)).mono ?_))
        rintro v w4 ⟨rfl, r4, h4⟩
        refine au ?_
        refine pl_op rfl rfl (opTo_call (fst := []) (cap := []) rfl rfl rfl rfl (by decide +kernel) ((bWake_ret h4.1 ⟨by omega, by omega⟩).mono ?_))
        rintro v w5 ⟨rfl, r5, h5⟩
        refine au ?_
        refine pl_num (((j + 1 : Nat) : Int)) rfl rfl rfl rfl rfl (by simp only [ariP]; omega) ?_
        refine au ?_
        rw [hT2]
        exact rn_ret Tryz.func15 (.inl ⟨_, rfl, rfl⟩) ⟨rfl, r5, ((ht3.seq h4).seq h5).late hk1⟩
      refine nay ?_
      refine au ?_
      refine pl_val _ rfl rfl (val_load1 hT rfl rfl rfl (hb3.cell rfl)) ?_
      by_cases hK1 : K = 1
      · refine ye ?_
        refine au ?_
        refine pl_val _ rfl rfl (val_load1 hT rfl rfl rfl (hb3.cell rfl)) ?_
        refine pl_val (.int .u64 ((mk % 2 : Nat) : Int)) rfl rfl (val_int .u64 _ 1 _ rfl rfl rfl (mask_one mk) w3) ?_
        by_cases hm1 : mk % 2 = 1
        · have hk1' : kp = true := by rw [hkeq, hK1, hm1]; rfl
          rw [hk1'] at hst hT2 s5 s6
          refine ye ?_
          refine au ?_
          refine pl_op rfl rfl (opTo_call (fst := []) (cap := []) rfl rfl rfl rfl (by decide +kernel) ((hst (Keep.refl _ _)).mono ?_))
          rintro v w4 ⟨rfl, r4, h4⟩
          refine au ?_
          refine pl_op rfl rfl (opTo_call (fst := []) (cap := []) rfl rfl rfl rfl (by decide +kernel) ((bWake_ret h4.1 ⟨by omega, by omega⟩).mono ?_))
          rintro v w5 ⟨rfl, r5, h5⟩
          refine au ?_
          refine pl_num (((j + 1 : Nat) : Int)) rfl rfl rfl rfl rfl (by simp only [ariP]; omega) ?_
          refine au ?_
          rw [hT2]
          exact rn_ret Tryz.func15 (.inl ⟨_, rfl, rfl⟩) ⟨rfl, r5, ((ht3.seq h4).seq h5).late hk1⟩
        · have hk1' : kp = false := by rw [hkeq, hK1, show (mk % 2 == 1) = false by simpa using hm1]; rfl
          rw [hk1'] at hst hT2 s5 s6
          refine nay ?_
          refine au ?_
          refine pl_op rfl rfl (opTo_call (fst := []) (cap := []) rfl rfl rfl rfl (by decide +kernel) ((hst (Keep.refl _ _)).mono ?_))
          rintro v w4 ⟨rfl, r4, h4⟩
          refine au ?_
          refine pl_op rfl rfl (opTo_call (fst := []) (cap := []) rfl rfl rfl rfl (by decide +kernel) ((bWake_ret h4.1 ⟨by omega, by omega⟩).mono ?_))
          rintro v w5 ⟨rfl, r5, h5⟩
          refine au ?_
          refine pl_num (((j + 1 : Nat) : Int)) rfl rfl rfl rfl rfl (by simp only [ariP]; omega) ?_
          refine au ?_
          rw [hT2]
          exact rn_ret Tryz.func15 (.inl ⟨_, rfl, rfl⟩) ⟨rfl, r5, ((ht3.seq h4).seq h5).late hk1⟩
      · have hk1' : kp = false := by rw [hkeq, show (K == 0) = false by simpa using hK0, show (K == 1) = false by simpa using hK1]; rfl
        rw [hk1'] at hst hT2 s5 s6
        refine nay ?_
        refine au ?_
        refine pl_op rfl rfl (opTo_call (fst := []) (cap := []) rfl rfl rfl rfl (by decide +kernel) ((hst (Keep.refl _ _)).mono ?_))
        rintro v w4 ⟨rfl, r4, h4⟩
        refine au ?_
        refine pl_op rfl rfl (opTo_call (fst := []) (cap := []) rfl rfl rfl rfl (by decide +kernel) ((bWake_ret h4.1 ⟨by omega, by omega⟩).mono ?_))
        rintro v w5 ⟨rfl, r5, h5⟩
        refine au ?_
        refine pl_num (((j + 1 : Nat) : Int)) rfl rfl rfl rfl rfl (by simp only [ariP]; omega) ?_
        refine au ?_
        rw [hT2]
        exact rn_ret Tryz.func15 (.inl ⟨_, rfl, rfl⟩) ⟨rfl, r5, ((ht3.seq h4).seq h5).late hk1⟩
  rintro σ' w3 ⟨hno, hk3, hsub⟩
  refine rn_sub hsub ?_
  rw [if_neg hno] at hT2
  have ht3 := ht2.keep0 hk3
  have hb3 := hk3.blk hb2 (by simp)
  refine au ?_
  refine pl_op rfl rfl (opTo_call (fst := []) (cap := []) rfl rfl rfl rfl (by decide +kernel) ((bStep_ret hP ht3.1 f1 hil (by omega) (by omega) true).mono ?_))
  rintro v w4 ⟨rfl, r4, h4⟩
  by_cases hs0 : xj.m.state = 0
  · rw [if_pos hs0] at hT2
    rw [show decide (xj.m.state = 0) = true by simp [hs0]]
    obtain ⟨g4, _, hg4, hI4⟩ := hI2.step true
    obtain ⟨hb4, hn4⟩ := h4.blk hn2 hb3
    have h4' : BwT w0 w3 w4 b (Q ++ [haltI]) inp cv iv rj r4 (stepL (Q ++ [haltI]) inp true xj).m (stepL (Q ++ [haltI]) inp true xj).k (stepL (Q ++ [haltI]) inp true xj).p := h4
    refine au ?_
    refine pl_num (((j + 1 : Nat) : Int)) rfl rfl rfl rfl rfl (by simp only [ariP]; omega) ?_
    refine au ?_
    refine rn_sub ?_ (ih (n - (j + 1)) _ w4 (by omega) ⟨j + 1, stepL (Q ++ [haltI]) inp true xj, r4, g4, by omega, rfl, rfl, ?_, ht3.seq h4', hI4, by omega, hb4, hn4⟩)
    · exact ⟨rfl, rfl, rfl, trivial⟩
    · rw [hT2, show n - (j + 1) = m by omega, show j + ((goL (Q ++ [haltI]) inp kd kp m (stepL (Q ++ [haltI]) inp true xj)).2 + 1) = j + 1 + (goL (Q ++ [haltI]) inp kd kp m (stepL (Q ++ [haltI]) inp true xj)).2 by omega]
  · rw [if_neg hs0] at hT2
    rw [show decide (xj.m.state = 0) = false by simp [hs0]]
    have e : ∀ {P : Prop}, (stB (Q ++ [haltI]) inp xj.m xj.p).1 = xj.m ∧ (stB (Q ++ [haltI]) inp xj.m xj.p).2 = xj.p := by
      unfold stB
      rw [if_neg hs0]
      exact ⟨rfl, rfl⟩
    have hc0 : comB (Q ++ [haltI]) xj.m = false := by
      unfold comB
      simp [hs0]
    rw [(e (P := True)).1, (e (P := True)).2, hc0] at h4
    have h4' : BwT w0 w3 w4 b (Q ++ [haltI]) inp cv iv rj r4 xj.m xj.k xj.p := h4
    refine au ?_
    rw [hT2]
    exact rn_ret Tryz.func15 (.inl ⟨_, rfl, rfl⟩) ⟨rfl, r4, (ht3.seq h4').late hk1⟩
end E
end Go.Proofs.YtmplkogkphmmjafGreat

/- Contracts of the document's looking: bad, head, variable, expr. -/
namespace Go.Proofs.YtmplkogkphmmjafGreat
set_option maxRecDepth 20000
set_option maxHeartbeats 4000000
namespace E
open Go.Proofs

abbrev tLk : Nat := 71
def lkC (a b : Value) (n : Nat) (c : Int) : List Value := [a, b, .int .i64 (n : Nat), .int .i64 c]
def badC (is : Bool) (c cd : Int) : Int := if is = true ∧ c = 0 then cd else c

section
variable {w : World} {j n : Nat} {a b : Value} {c : Int}

theorem bad_ret (h : Blk w j (lkC a b n c) tLk) (is : Bool) (cd : Int) :
    Ret Tryz.prog 53 [.pointer (some ⟨j, 0, none⟩), .bool is, .int .i64 cd] w fun r w' => r = .tuple #[] ∧ Blk w' j (lkC a b n (badC is c cd)) tLk ∧ Keep [j] w w' := by
  refine ret_of 18 Tryz.func53 rfl rfl (by simp) ?_
  have h' := h
  unfold lkC at h'
  cases is with
  | false =>
    refine au ?_
    refine rn_end Tryz.func53 (.inr (.inl ⟨rfl, rfl⟩)) ⟨rfl, ?_, Keep.refl _ _⟩
    simpa [badC] using h
  | true =>
    by_cases hc : c = 0
    · refine aub ?_
      refine pl_op rfl rfl (opTo_storeN [.int .i64 cd] rfl rfl rfl rfl (by kernel_rfl) h' (by simp) (by simp; rfl) ?_)
      intro w1 hs1 hk1 hB1
      refine au ?_
      refine rn_end Tryz.func53 (.inr (.inl ⟨rfl, rfl⟩)) ⟨rfl, ?_, hk1⟩
      have e : badC true c cd = cd := by simp [badC, hc]
      rw [e]
      exact hB1
    · refine aub ?_
      refine rn_end Tryz.func53 (.inr (.inl ⟨rfl, rfl⟩)) ⟨rfl, ?_, Keep.refl _ _⟩
      have e : badC true c cd = c := by simp [badC, hc]
      rw [e]
      exact h

theorem head_ret (h : Blk w j (lkC a b n c) tLk) (deep : Int) (hn : n ≤ 100000) :
    Ret Tryz.prog 52 [.pointer (some ⟨j, 0, none⟩), .int .i64 deep] w fun r w' => r = .tuple #[] ∧ Blk w' j (lkC a b (n + 1) (badC (decide (n + 1 > 150)) (badC (decide (deep > 12)) c 4) 3)) tLk ∧ Keep [j] w w' := by
  refine ret_of 22 Tryz.func52 rfl rfl (by simp) ?_
  have h' := h
  unfold lkC at h'
  refine aub ?_
  refine pl_num (((n + 1 : Nat) : Int)) rfl rfl rfl rfl rfl (by simp only [ariP]; omega) ?_
  refine au ?_
  refine pl_op rfl rfl (opTo_storeN [.int .i64 ((n + 1 : Nat) : Int)] rfl rfl rfl rfl (by kernel_rfl) h' (by simp) (by simp; rfl) ?_)
  intro w1 hs1 hk1 hB1
  have hB1' : Blk w1 j (lkC a b (n + 1) c) tLk := hB1
  refine au ?_
  refine pl_val (.bool (decide (deep > 12))) rfl rfl (val_int .i64 _ _ _ rfl rfl rfl (by rfl) w1) ?_
  refine pl_op rfl rfl (opTo_call rfl rfl rfl rfl (by decide +kernel) ((bad_ret hB1' (decide (deep > 12)) 4).mono ?_))
  rintro v2 w2 ⟨rfl, hB2, hk2⟩
  have hB2' := hB2
  unfold lkC at hB2'
  refine au ?_
  refine pl_val _ rfl rfl (val_load1 hT rfl rfl rfl (hB2'.cell rfl)) ?_
  refine pl_val (.bool (decide (n + 1 > 150))) rfl rfl (val_int .i64 _ _ _ rfl rfl rfl (by simp only [intOp]; congr 2; simp; omega) w2) ?_
  refine pl_op rfl rfl (opTo_call rfl rfl rfl rfl (by decide +kernel) ((bad_ret hB2 (decide (n + 1 > 150)) 3).mono ?_))
  rintro v3 w3 ⟨rfl, hB3, hk3⟩
  refine au ?_
  exact rn_end Tryz.func52 (.inr (.inl ⟨rfl, rfl⟩)) ⟨rfl, hB3, (hk1.tr hk2).tr hk3⟩

def varC (nv : Nat) (v : Int) (has : Bool) (c : Int) : Int := if has then badC (decide (v < 0 ∨ v ≥ (nv : Int))) c 1 else badC (decide (v ≠ 0)) c 5

theorem variable_ret {av : Option Addr} {nv capv : Nat} (h : Blk w j (lkC (.slice av nv capv) b n c) tLk) (v : Int) (has : Bool) :
    Ret Tryz.prog 56 [.pointer (some ⟨j, 0, none⟩), .int .i64 v, .bool has] w fun r w' => r = .tuple #[] ∧ Blk w' j (lkC (.slice av nv capv) b n (varC nv v has c)) tLk ∧ Keep [j] w w' := by
  refine ret_of 25 Tryz.func56 rfl rfl (by simp) ?_
  have h' := h
  unfold lkC at h'
  cases has with
  | true =>
    by_cases h1 : v < 0
    · refine aub ?_
      refine pl_op rfl rfl (opTo_call rfl rfl rfl rfl (by decide +kernel) ((bad_ret h true 1).mono ?_))
      rintro v2 w2 ⟨rfl, hB2, hk2⟩
      refine au ?_
      refine rn_end Tryz.func56 (.inr (.inl ⟨rfl, rfl⟩)) ⟨rfl, ?_, hk2⟩
      have e : varC nv v true c = badC true c 1 := by simp [varC, h1]
      rw [e]
      exact hB2
    · refine aub ?_
      refine pl_val (.bool (decide (v ≥ (nv : Int)))) rfl rfl (val_int .i64 _ _ _ rfl rfl rfl (by rfl) w) ?_
      refine au ?_
      refine pl_op rfl rfl (opTo_call rfl rfl rfl rfl (by decide +kernel) ((bad_ret h (decide (v ≥ (nv : Int))) 1).mono ?_))
      rintro v2 w2 ⟨rfl, hB2, hk2⟩
      refine au ?_
      refine rn_end Tryz.func56 (.inr (.inl ⟨rfl, rfl⟩)) ⟨rfl, ?_, hk2⟩
      have e : varC nv v true c = badC (decide (v ≥ (nv : Int))) c 1 := by simp [varC, h1]
      rw [e]
      exact hB2
  | false =>
    refine au ?_
    refine pl_val (.bool (decide (v ≠ 0))) rfl rfl (val_int .i64 _ _ _ rfl rfl rfl (by simp only [intOp]; congr 2; rw [Bool.eq_iff_iff]; simp) w) ?_
    refine pl_op rfl rfl (opTo_call rfl rfl rfl rfl (by decide +kernel) ((bad_ret h (decide (v ≠ 0)) 5).mono ?_))
    rintro v2 w2 ⟨rfl, hB2, hk2⟩
    refine au ?_
    exact rn_end Tryz.func56 (.inr (.inl ⟨rfl, rfl⟩)) ⟨rfl, hB2, hk2⟩
end

/-- From how many parts, and which code, to how many and which, by a check. -/
def Tr (x : Nat → Except Int Nat) (n : Nat) (c : Int) (n' : Nat) (c' : Int) : Prop :=
  (c ≠ 0 → n' = n ∧ c' = c) ∧ (c = 0 → (∀ q, x n = .ok q → n' = q ∧ c' = 0) ∧ ∀ e, x n = .error e → c' = e) ∧ n' ≤ 151 ∧ (c' = 0 → n' ≤ 150)
theorem Tr.id {n : Nat} {c : Int} (h : n ≤ 151) (h0 : c = 0 → n ≤ 150) : Tr (fun k => .ok k) n c n c := ⟨fun _ => ⟨rfl, rfl⟩, fun hc => ⟨fun q hq => by injection hq with hq; exact ⟨hq, hc⟩, fun e he => by cases he⟩, h, h0⟩
theorem Tr.seq {x y : Nat → Except Int Nat} {n n1 n2 : Nat} {c c1 c2 : Int} (h1 : Tr x n c n1 c1) (hx : Coded (x n)) (h2 : Tr y n1 c1 n2 c2) : Tr (fun k => nextK (x k) y) n c n2 c2 := by
  refine ⟨fun hc => ?_, fun hc => ?_, h2.2.2⟩
  · obtain ⟨rfl, rfl⟩ := h1.1 hc
    exact h2.1 hc
  · obtain ⟨ha, hb⟩ := h1.2.1 hc
    cases hxn : x n with
    | error e =>
      have := hb e hxn
      subst this
      obtain ⟨rfl, rfl⟩ := h2.1 (hx _ hxn)
      exact ⟨fun q hq => (by simp only [nextK, hxn] at hq; cases hq), fun e' he => (by simp only [nextK, hxn] at he; injection he)⟩
    | ok k1 =>
      obtain ⟨rfl, rfl⟩ := ha k1 hxn
      have := h2.2.1 rfl
      exact ⟨fun q hq => this.1 q (by simpa only [nextK, hxn] using hq), fun e he => this.2 e (by simpa only [nextK, hxn] using he)⟩

theorem look_chain (nv n : Nat) (deep : Int) (known fits1 fits2 named : Bool) (v : Int) (k2 f1 f2 : Bool) (h1 : k2 = !known) (h2 : (f1 || f2) = !(fits1 && fits2)) :
    varC nv v named (badC f2 (badC f1 (badC k2 (badC (decide (n + 1 > 150)) (badC (decide (deep > 12)) 0 4) 3) 2) 5) 5) = lookK nv n deep known (fits1 && fits2) named v := by
  unfold lookK
  by_cases d : deep > 12
  · have : varC nv v named 4 = 4 := by cases named <;> simp [varC, badC]
    simp [badC, d, this]
  · by_cases m : n + 1 > 150
    · have : varC nv v named 3 = 3 := by cases named <;> simp [varC, badC]
      simp [badC, d, m, this]
    · cases known with
      | false =>
        have : varC nv v named 2 = 2 := by cases named <;> simp [varC, badC]
        subst h1
        simp [badC, d, m, this]
      | true =>
        subst h1
        cases hf : (fits1 && fits2) with
        | false =>
          rw [hf] at h2
          have : varC nv v named 5 = 5 := by cases named <;> simp [varC, badC]
          cases f1 with
          | true => simp [badC, d, m, this]
          | false =>
            simp at h2
            subst h2
            simp [badC, d, m, this]
        | true =>
          rw [hf] at h2
          simp at h2
          obtain ⟨rfl, rfl⟩ := h2
          have : varC nv v named 0 = varK nv v named := by cases named <;> simp [varC, badC, varK]
          simp [badC, d, m, this]

theorem lookExpr_ret {j nv capv : Nat} {av : Option Addr} {b : Value} : ∀ (s : Nat) (t : ET), szE t ≤ s → szE t ≤ 100000 → ∀ {F : Nat → Prop} {w : World} {cs : List Value} (deep n : Nat) (c : Int), ExprV F w cs t → In F w → ¬ F j → Blk w j (lkC (.slice av nv capv) b n c) tLk → deep ≤ 14 → n ≤ 151 → (c = 0 → n ≤ 150) →
    Ret Tryz.prog 57 [.pointer (some ⟨j, 0, none⟩), .agg cs.toArray, .int .i64 (deep : Nat)] w fun r w' => r = .tuple #[] ∧ (∃ n' c', Blk w' j (lkC (.slice av nv capv) b n' c') tLk ∧ Tr (chkE nv t deep) n c n' c') ∧ Keep [j] w w' := by
  intro s
  induction s with
  | zero => intro t ht; have := szE_pos t; omega
  | succ s ih =>
    intro t ht ht3 F w cs deep n c h hF hFj hJ hdeep hn hn0
    obtain ⟨op, v, nn, l⟩ := t
    obtain ⟨lv, rfl, hl⟩ := h.inv
    obtain ⟨al, capl, rfl⟩ := hl.form
    simp only [szE] at ht ht3
    have hlen := szEs_len l
    refine ret_of 75 Tryz.func57 rfl rfl (by simp) ?_
    refine au ?_
    refine pl_op rfl rfl (opTo_boxN [.int .i64 op, .int .i64 v, .int .i64 nn, .slice al l.length capl] rfl rfl rfl ?_)
    intro w1 x hx hs1 hk1 hX1
    have hJ1 := hk1.blk hJ (by simp)
    have hJ1' := hJ1
    unfold lkC at hJ1'
    have hxj : x ≠ j := hX1.ne hJ1 (by decide)
    refine au ?_
    refine pl_val _ rfl rfl (val_load1 hT rfl rfl rfl (hJ1'.cell rfl)) ?_
    by_cases hc : c = 0
    · subst hc
      have hn150 := hn0 rfl
      refine nay ?_
      refine au ?_
      refine pl_op rfl rfl (opTo_call rfl rfl rfl rfl (by decide +kernel) ((head_ret hJ1 (deep : Nat) (by omega)).mono ?_))
      rintro v2 w2 ⟨rfl, hJ2, hk2⟩
      have hX2 := hk2.blk hX1 (by simpa using hxj)
      refine au ?_
      refine pl_val _ rfl rfl (val_load1 hT rfl rfl rfl (hX2.cell rfl)) ?_
      refine pl_op rfl rfl (opTo_call rfl rfl rfl rfl (by decide +kernel) ((partsOf_ret op w2).mono ?_))
      rintro v3 w3 ⟨rfl, rfl⟩
      refine au ?_
      refine pl_val (.bool (!knownE op)) rfl rfl (val_int .i64 _ _ _ rfl rfl rfl (by simp only [intOp]; congr 2; unfold knownE; rw [Bool.eq_iff_iff]; simp) w3) ?_
      refine pl_op rfl rfl (opTo_call rfl rfl rfl rfl (by decide +kernel) ((bad_ret hJ2 (!knownE op) 2).mono ?_))
      rintro v4 w4 ⟨rfl, hJ4, hk4⟩
      have hX4 := hk4.blk hX2 (by simpa using hxj)
      refine au ?_
      refine pl_val _ rfl rfl (val_load1 hT rfl rfl rfl (hX4.cell rfl)) ?_
      refine au ?_
      refine pl_val (.bool (!decide ((l.length : Int) = partsOf op))) rfl rfl (val_int .i64 _ _ _ rfl rfl rfl (by simp only [intOp]; congr 2; rw [Bool.eq_iff_iff]; simp; omega) w4) ?_
      refine pl_op rfl rfl (opTo_call rfl rfl rfl rfl (by decide +kernel) ((bad_ret hJ4 (!decide ((l.length : Int) = partsOf op)) 5).mono ?_))
      rintro v5 w5 ⟨rfl, hJ5, hk5⟩
      have hX5 := hk5.blk hX4 (by simpa using hxj)
      refine pl_nil ?_
      refine rn_seq ?_
      refine rn_with (fun σ' w' => ∃ c6, c6 = badC (!(op == 1 || nn == 0)) (badC (!decide ((l.length : Int) = partsOf op)) (badC (!knownE op) (badC (decide (n + 1 > 150)) (badC (decide ((deep : Int) > 12)) 0 4) 3) 2) 5) 5 ∧ Blk w' j (lkC (.slice av nv capv) b (n + 1) c6) tLk ∧ Blk w' x [.int .i64 op, .int .i64 v, .int .i64 nn, .slice al l.length capl] 94 ∧ Keep [j] w w' ∧ Sub [(0, .pointer (some ⟨j, 0, none⟩)), (2, .int .i64 (deep : Nat)), (4, .pointer (some ⟨x, 0, none⟩))] σ') ?_ ?_
      · rintro σ' w6 ⟨c6, hc6, hJ6, hX6, hk6, hsub⟩
        refine rn_sub hsub ?_
        refine rn_seq ?_
        refine rn_with (fun σ' w' => ∃ c7, c7 = varC nv v (namedE op) c6 ∧ Blk w' j (lkC (.slice av nv capv) b (n + 1) c7) tLk ∧ Blk w' x [.int .i64 op, .int .i64 v, .int .i64 nn, .slice al l.length capl] 94 ∧ Keep [j] w w' ∧ Sub [(0, .pointer (some ⟨j, 0, none⟩)), (2, .int .i64 (deep : Nat)), (4, .pointer (some ⟨x, 0, none⟩))] σ') ?_ ?_
        · rintro σ' w7 ⟨c7, hc7, hJ7, hX7, hk7, hsub⟩
          refine rn_sub hsub ?_
          have hck : c7 = lookK nv n (deep : Nat) (knownE op) (fitsE op nn l.length) (namedE op) v := by
            rw [hc7, hc6]
            exact look_chain nv n (deep : Nat) (knownE op) (decide ((l.length : Int) = partsOf op)) (op == 1 || nn == 0) (namedE op) v _ _ _ rfl (by cases decide ((l.length : Int) = partsOf op) <;> cases (op == 1 || nn == 0) <;> rfl)
          clear hc6 hc7 hJ1 hJ1' hJ2 hJ4 hJ5 hX1 hX2 hX4 hX5 hk2 hk4 hk5
          refine au ?_
          refine rn_ind (fun m σ w' => ∃ (i ni : Nat) (ci : Int), i ≤ l.length ∧ m = l.length - i ∧ σ = [(0, .pointer (some ⟨j, 0, none⟩)), (2, .int .i64 (deep : Nat)), (4, .pointer (some ⟨x, 0, none⟩)), (7, .int .i64 (i : Nat))] ∧ Blk w' j (lkC (.slice av nv capv) b ni ci) tLk ∧ Blk w' x [.int .i64 op, .int .i64 v, .int .i64 nn, .slice al l.length capl] 94 ∧ Keep [j] w w' ∧
            ni ≤ 151 ∧ ((ci = 0 ∧ c7 = 0 ∧ ni ≤ 150 ∧ chkEs nv (l.take i) (deep + 1) (n + 1) = .ok ni) ∨ (ci ≠ 0 ∧ chkE nv (.mk op v nn l) deep n = .error ci))) l.length _ ?_ ⟨0, n + 1, c7, by omega, by omega, rfl, hJ7, hX7, hk7, by omega, ?_⟩ ?_
          · exact ⟨rfl, rfl, rfl, rfl, trivial⟩
          · by_cases hz : c7 = 0
            · have := look_room (hck.symm.trans hz)
              exact .inl ⟨hz, hz, by omega, by simp [chkEs]⟩
            · refine .inr ⟨hz, ?_⟩
              rw [chkE_look, ← hck, if_pos hz]
          clear hJ7 hX7 hk7
          rintro m σ w8 ih2 ⟨i, ni, ci, hi, rfl, rfl, hJ8, hX8, hk8, hni, hor⟩
          have hJ8' := hJ8
          unfold lkC at hJ8'
          refine au ?_
          refine pl_val _ rfl rfl (val_load1 hT rfl rfl rfl (hX8.cell rfl)) ?_
          refine au ?_
          by_cases hlt : i < l.length
          · rcases hor with ⟨hci, hc70, hni150, hch⟩ | ⟨hci, hch⟩
            · subst hci
              have hroom := look_room (hck.symm.trans hc70)
              have hget : l[i]? = some l[i] := List.getElem?_eq_getElem hlt
              have hsz := szEs_at hget
              have hat := chkEs_at hget hch
              obtain ⟨bb, q, _, cj, hvv, _, hra, hcj⟩ := (hl.keep hk8 (stays_but hF hFj)).at hget
              cases hvv
              refine aub ?_
              refine pl_val _ rfl rfl (val_index i hT rfl rfl rfl rfl rfl hlt w8) ?_
              refine pl_val (.agg cj.toArray) rfl rfl (val_load cj hT rfl rfl (by rw [hcj.length]; rfl) hra) ?_
              refine au ?_
              refine pl_num (((deep + 1 : Nat) : Int)) rfl rfl rfl rfl rfl (by simp only [ariP]; omega) ?_
              refine pl_op rfl rfl (opTo_call rfl rfl rfl rfl (by decide +kernel) ((ih l[i] (by omega) (by omega) (deep + 1) ni 0 hcj (hF.keep hk8) hFj hJ8 (by omega) hni (fun _ => hni150)).mono ?_))
              rintro v9 w9 ⟨rfl, ⟨n9, c9, hJ9, htr9⟩, hk9⟩
              have hX9 := hk9.blk hX8 (by simpa using hxj)
              refine au ?_
              refine pl_num (((i + 1 : Nat) : Int)) rfl rfl rfl rfl rfl (by simp only [ariP]; omega) ?_
              refine au ?_
              refine rn_sub ?_ (ih2 (l.length - (i + 1)) [(0, .pointer (some ⟨j, 0, none⟩)), (2, .int .i64 (deep : Nat)), (4, .pointer (some ⟨x, 0, none⟩)), (7, .int .i64 ((i + 1 : Nat) : Int))] w9 (by omega)
                ⟨i + 1, n9, c9, by omega, rfl, rfl, hJ9, hX9, hk8.tr hk9, htr9.2.2.1, ?_⟩)
              · exact ⟨rfl, rfl, rfl, rfl, trivial⟩
              · have ht := htr9.2.1 rfl
                cases hx9 : chkE nv l[i] (deep + 1) ni with
                | ok q =>
                  obtain ⟨rfl, rfl⟩ := ht.1 q hx9
                  exact .inl ⟨rfl, hc70, htr9.2.2.2 rfl, by rw [hat.1, hx9]⟩
                | error e =>
                  have := ht.2 e hx9
                  subst this
                  refine .inr ⟨codedE nv _ _ _ _ hx9, ?_⟩
                  rw [chkE_look, ← hck, if_neg (by simp [hc70])]
                  exact hat.2 _ hx9
            · refine aub ?_
              refine rn_end Tryz.func57 (.inr (.inl ⟨rfl, rfl⟩)) ⟨rfl, ⟨ni, ci, hJ8, ?_⟩, hk8⟩
              exact ⟨fun h => absurd rfl h, fun _ => ⟨fun q hq => (by rw [hch] at hq; cases hq), fun e he => (by rw [hch] at he; injection he)⟩, hni, fun h => absurd h hci⟩
          · refine nay ?_
            refine au ?_
            refine rn_end Tryz.func57 (.inr (.inl ⟨rfl, rfl⟩)) ⟨rfl, ⟨ni, ci, hJ8, ?_⟩, hk8⟩
            rcases hor with ⟨hci, hc70, hni150, hch⟩ | ⟨hci, hch⟩
            · rw [List.take_of_length_le (by omega)] at hch
              have hE : chkE nv (.mk op v nn l) deep n = .ok ni := by rw [chkE_look, ← hck, if_neg (by simp [hc70])]; exact hch
              exact ⟨fun h => absurd rfl h, fun _ => ⟨fun q hq => (by rw [hE] at hq; injection hq with hq; exact ⟨hq, hci⟩), fun e he => (by rw [hE] at he; cases he)⟩, hni, fun _ => hni150⟩
            · exact ⟨fun h => absurd rfl h, fun _ => ⟨fun q hq => (by rw [hch] at hq; cases hq), fun e he => (by rw [hch] at he; injection he)⟩, hni, fun h => absurd h hci⟩
        · intro fin7
          by_cases h2 : op = 2
          · refine aub ?_
            refine pl_op rfl rfl (opTo_call rfl rfl rfl rfl (by decide +kernel) ((variable_ret hJ6 v true).mono ?_))
            rintro v7 w7 ⟨rfl, hJ7, hk7⟩
            refine pl_nil ?_
            exact fin7 _ _ ⟨_, by simp [namedE, h2], hJ7, hk7.blk hX6 (by simpa using hxj), hk6.tr hk7, rfl, rfl, rfl, trivial⟩
          · refine aub ?_
            refine pl_val (.bool (namedE op)) rfl rfl (val_int .i64 _ _ _ rfl rfl rfl (by simp [intOp, namedE, h2]) w6) ?_
            refine au ?_
            refine pl_op rfl rfl (opTo_call rfl rfl rfl rfl (by decide +kernel) ((variable_ret hJ6 v (namedE op)).mono ?_))
            rintro v7 w7 ⟨rfl, hJ7, hk7⟩
            refine pl_nil ?_
            exact fin7 _ _ ⟨_, rfl, hJ7, hk7.blk hX6 (by simpa using hxj), hk6.tr hk7, rfl, rfl, rfl, trivial⟩
      · intro fin6
        have hk5w : Keep [j] w w5 := (((Keep.of0 hk1).tr hk2).tr hk4).tr hk5
        by_cases h1 : op = 1
        · refine aub ?_
          refine pl_op rfl rfl (opTo_call rfl rfl rfl rfl (by decide +kernel) ((bad_ret hJ5 false 5).mono ?_))
          rintro v6 w6 ⟨rfl, hJ6, hk6⟩
          refine pl_nil ?_
          exact fin6 _ _ ⟨_, by simp [h1], hJ6, hk6.blk hX5 (by simpa using hxj), hk5w.tr hk6, rfl, rfl, rfl, trivial⟩
        · refine aub ?_
          refine pl_val (.bool (!(op == 1 || nn == 0))) rfl rfl (val_int .i64 _ _ _ rfl rfl rfl (by simp only [intOp]; congr 2; rw [Bool.eq_iff_iff]; simp [h1]) w5) ?_
          refine au ?_
          refine pl_op rfl rfl (opTo_call rfl rfl rfl rfl (by decide +kernel) ((bad_ret hJ5 (!(op == 1 || nn == 0)) 5).mono ?_))
          rintro v6 w6 ⟨rfl, hJ6, hk6⟩
          refine pl_nil ?_
          exact fin6 _ _ ⟨_, rfl, hJ6, hk6.blk hX5 (by simpa using hxj), hk5w.tr hk6, rfl, rfl, rfl, trivial⟩
    · refine ye ?_
      refine au ?_
      refine rn_ret Tryz.func57 (.inr (.inl ⟨rfl, rfl⟩)) ⟨rfl, ⟨n, c, hJ1, ?_⟩, Keep.of0 hk1⟩
      exact ⟨fun _ => ⟨rfl, rfl⟩, fun h => absurd h hc, hn, hn0⟩
end E
end Go.Proofs.YtmplkogkphmmjafGreat

/- Contracts of the document's looking at statements, and of ProgramFault. -/
namespace Go.Proofs.YtmplkogkphmmjafGreat
set_option maxRecDepth 20000
set_option maxHeartbeats 4000000
namespace E
open Go.Proofs

def x1 (op : Int) (e f : ET) : Bool := (needE op || zeroE e) && (needF op || zeroE f)
def x2 (op : Int) (lb lo : Nat) : Bool := (needB op || (lb : Int) == 0) && (needO op || (lo : Int) == 0)
theorem fits_x (op : Int) (e f : ET) (lb lo : Nat) : fitsS op e f lb lo = (x1 op e f && x2 op lb lo) := by
  unfold fitsS x1 x2
  cases needE op <;> cases zeroE e <;> cases needF op <;> cases zeroE f <;> cases needB op <;> cases ((lb : Int) == 0) <;> cases needO op <;> cases ((lo : Int) == 0) <;> rfl

/-- A statement in its box, and the looking beside it. -/
structure Lk (F : Nat → Prop) (w0 w : World) (j x nv capv : Nat) (av : Option Addr) (b : Value) (n : Nat) (c : Int) (sc : List Value) : Prop where
  hj : Blk w j (lkC (.slice av nv capv) b n c) tLk
  hx : Blk w x sc 97
  hk : Keep [j] w0 w

section
variable {F : Nat → Prop} {w0 w w' : World} {j x nv capv : Nat} {av : Option Addr} {b : Value} {n n' : Nat} {c c' : Int} {sc : List Value}
theorem Lk.turn (h : Lk F w0 w j x nv capv av b n c sc) (hj : Blk w' j (lkC (.slice av nv capv) b n' c') tLk) (hk : Keep [j] w w') : Lk F w0 w' j x nv capv av b n' c' sc :=
  ⟨hj, hk.blk h.hx (by simpa using h.hx.ne h.hj (by decide)), h.hk.tr hk⟩
theorem Lk.keep (h : Lk F w0 w j x nv capv av b n c sc) (hk : Keep [] w w') : Lk F w0 w' j x nv capv av b n c sc :=
  ⟨hk.blk h.hj (by simp), hk.blk h.hx (by simp), h.hk.tr (Keep.of0 hk)⟩
end

theorem lookList_ret {j nv capv : Nat} {av : Option Addr} {b : Value} : ∀ (s : Nat) (l : List ST), szSs l < s → szSs l ≤ 100000 → ∀ {F : Nat → Prop} {w : World} {xl : Value} (deep n : Nat) (c : Int), StmtsV F w xl l → In F w → ¬ F j → Blk w j (lkC (.slice av nv capv) b n c) tLk → (deep ≤ 13 ∨ (c ≠ 0 ∧ deep ≤ 14)) → n ≤ 151 → (c = 0 → n ≤ 150) →
    Ret Tryz.prog 29 [.pointer (some ⟨j, 0, none⟩), xl, .int .i64 (deep : Nat)] w fun r w' => r = .tuple #[] ∧ (∃ n' c', Blk w' j (lkC (.slice av nv capv) b n' c') tLk ∧ Tr (chkSs nv l deep) n c n' c') ∧ Keep [j] w w' := by
  intro s
  induction s with
  | zero => intro l hl; omega
  | succ s ih =>
    intro l hl hl3 F w xl deep n c h hF hFj hJ hdeep hn hn0
    obtain ⟨a, cap, rfl⟩ := h.form
    have hlen := szSs_len l
    refine ret_of 123 Tryz.func29 rfl rfl (by simp) ?_
    refine au ?_
    refine rn_ind (fun m σ w' => ∃ (i ni : Nat) (ci : Int), i ≤ l.length ∧ m = l.length - i ∧ σ = [(0, .pointer (some ⟨j, 0, none⟩)), (1, .slice a l.length cap), (2, .int .i64 (deep : Nat)), (6, .int .i64 (i : Nat))] ∧ Blk w' j (lkC (.slice av nv capv) b ni ci) tLk ∧ Keep [j] w w' ∧ ni ≤ 151 ∧ (ci = 0 → ni ≤ 150) ∧
      ((c = 0 ∧ ci = 0 ∧ chkSs nv (l.take i) deep n = .ok ni) ∨ (ci ≠ 0 ∧ ((c = 0 ∧ chkSs nv l deep n = .error ci) ∨ (c ≠ 0 ∧ ni = n ∧ ci = c))))) l.length _ ?_ ⟨0, n, c, by omega, by omega, rfl, hJ, Keep.refl _ _, hn, hn0, ?_⟩ ?_
    · exact ⟨rfl, rfl, rfl, rfl, trivial⟩
    · by_cases hc : c = 0
      · exact .inl ⟨hc, hc, by simp [chkSs]⟩
      · exact .inr ⟨hc, .inr ⟨hc, rfl, rfl⟩⟩
    rintro m σ w2 ih2 ⟨i, ni, ci, hi, rfl, rfl, hJ2, hk2, hni, hni0, hor⟩
    have hJ2' := hJ2
    unfold lkC at hJ2'
    have hend : (i = l.length ∨ ci ≠ 0) → Tr (chkSs nv l deep) n c ni ci := by
      intro hx
      rcases hor with ⟨hc, hci, hch⟩ | ⟨hci, hr⟩
      · have hil : i = l.length := by
          rcases hx with hx | hx
          · exact hx
          · exact absurd hci hx
        rw [hil, List.take_length] at hch
        exact ⟨fun h => absurd hc h, fun _ => ⟨fun q hq => (by rw [hch] at hq; injection hq with hq; exact ⟨hq, hci⟩), fun e he => (by rw [hch] at he; cases he)⟩, hni, hni0⟩
      · rcases hr with ⟨hc, hch⟩ | ⟨hc, h1, h2⟩
        · exact ⟨fun h => absurd hc h, fun _ => ⟨fun q hq => (by rw [hch] at hq; cases hq), fun e he => (by rw [hch] at he; injection he)⟩, hni, hni0⟩
        · exact ⟨fun _ => ⟨h1, h2⟩, fun h => absurd h hc, hni, hni0⟩
    refine au ?_
    by_cases hlt : i < l.length
    · by_cases hcz : ci = 0
      · subst hcz
        obtain ⟨hc0, hch⟩ : c = 0 ∧ chkSs nv (l.take i) deep n = .ok ni := by
          rcases hor with ⟨hc, _, hch⟩ | ⟨hci, _⟩
          · exact ⟨hc, hch⟩
          · exact absurd rfl hci
        have hni150 := hni0 rfl
        have hd13 : deep ≤ 13 := hdeep.elim id fun h => absurd hc0 h.1
        clear hend hor hdeep hn0
        have hget : l[i]? = some l[i] := List.getElem?_eq_getElem hlt
        have hsz := szSs_at hget
        obtain ⟨op, v, e, f, lb, lo, hs⟩ : ∃ op v e f lb lo, l[i] = ST.mk op v e f lb lo := by cases l[i]; exact ⟨_, _, _, _, _, _, rfl⟩
        rw [hs] at hget hsz
        simp only [szS] at hsz
        have hat := chkSs_at hget hch
        obtain ⟨bb, q, cap', ce, cf, bv, ov, hvv, hst⟩ := (h.keep hk2 (stays_but hF hFj)).stmtAt hget
        cases hvv
        have hF2 := hF.keep hk2
        obtain ⟨e0, e1, e2, e3, rfl⟩ := list4 hst.he.length
        obtain ⟨f0, f1, f2, f3, rfl⟩ := list4 hst.hf.length
        obtain ⟨ab, capb, rfl⟩ := hst.hb.form
        obtain ⟨ao, capo, rfl⟩ := hst.ho.form
        refine aub ?_
        refine pl_val _ rfl rfl (val_index i hT rfl rfl rfl rfl rfl hlt w2) ?_
        refine pl_val _ rfl rfl (val_load [.int .i64 op, .int .i64 v, e0, e1, e2, e3, f0, f1, f2, f3, .slice ab lb.length capb, .slice ao lo.length capo] hT rfl rfl rfl hst.whole) ?_
        refine pl_op rfl rfl (opTo_allocN _ rfl zero_stmt ?_)
        intro w3 x hx3 hs3 hk3 hX3
        refine pl_op rfl rfl (opTo_storeN _ rfl rfl rfl rfl (by kernel_rfl) hX3 (by simp [stmtZ]) hst.stmt.one ?_)
        intro w4 hs4 hk4 hX4
        rw [splice_whole (by rfl)] at hX4
        have hk24 : Keep [] w2 w4 := hk3.trB hk4 (by omega)
        have hL4 : Lk F w2 w4 j x nv capv av b ni 0 [.int .i64 op, .int .i64 v, e0, e1, e2, e3, f0, f1, f2, f3, .slice ab lb.length capb, .slice ao lo.length capo] := ⟨hk24.blk hJ2 (by simp), hX4, Keep.of0 hk24⟩
        clear hk3 hk4 hX3 hX4 hk24
        refine au ?_
        refine pl_op rfl rfl (opTo_call rfl rfl rfl rfl (by decide +kernel) ((head_ret hL4.hj (deep : Nat) (by omega)).mono ?_))
        rintro v5 w5 ⟨rfl, hJ5, hk5⟩
        have hL5 := hL4.turn hJ5 hk5
        have hst2 := stays_but hF2 hFj
        refine pl_nil ?_
        refine rn_seq ?_
        refine rn_with (fun σ' w' => ∃ c6, c6 = badC (!knownS op) (badC (decide (ni + 1 > 150)) (badC (decide ((deep : Int) > 12)) 0 4) 3) 2 ∧ Lk F w2 w' j x nv capv av b (ni + 1) c6 [.int .i64 op, .int .i64 v, e0, e1, e2, e3, f0, f1, f2, f3, .slice ab lb.length capb, .slice ao lo.length capo] ∧ Sub [(0, .pointer (some ⟨j, 0, none⟩)), (1, .slice (some ⟨bb, q, none⟩) l.length cap), (2, .int .i64 (deep : Nat)), (6, .int .i64 (i : Nat)), (7, .pointer (some ⟨x, 0, none⟩))] σ') ?_ ?_
        · rintro σ' w6 ⟨c6, hc6, hL6, hsub⟩
          refine rn_sub hsub ?_
          refine rn_seq ?_
          refine rn_with (fun σ' w' => ∃ c7, c7 = badC (!x1 op e f) c6 5 ∧ Lk F w2 w' j x nv capv av b (ni + 1) c7 [.int .i64 op, .int .i64 v, e0, e1, e2, e3, f0, f1, f2, f3, .slice ab lb.length capb, .slice ao lo.length capo] ∧ Sub [(0, .pointer (some ⟨j, 0, none⟩)), (1, .slice (some ⟨bb, q, none⟩) l.length cap), (2, .int .i64 (deep : Nat)), (6, .int .i64 (i : Nat)), (7, .pointer (some ⟨x, 0, none⟩))] σ') ?_ ?_
          · rintro σ' w7 ⟨c7, hc7, hL7, hsub⟩
            refine rn_sub hsub ?_
            refine rn_seq ?_
            refine rn_with (fun σ' w' => ∃ c8, c8 = badC (!x2 op lb.length lo.length) c7 5 ∧ Lk F w2 w' j x nv capv av b (ni + 1) c8 [.int .i64 op, .int .i64 v, e0, e1, e2, e3, f0, f1, f2, f3, .slice ab lb.length capb, .slice ao lo.length capo] ∧ Sub [(0, .pointer (some ⟨j, 0, none⟩)), (1, .slice (some ⟨bb, q, none⟩) l.length cap), (2, .int .i64 (deep : Nat)), (6, .int .i64 (i : Nat)), (7, .pointer (some ⟨x, 0, none⟩))] σ') ?_ ?_
            · rintro σ' w8 ⟨c8, hc8, hL8, hsub⟩
              refine rn_sub hsub ?_
              refine au ?_
              refine rn_draw (fun w' => Keep [] w8 w') [6] hMix ?_
              have hS : Keep [] w8 w8.drew := (Keep.refl _ _).drew
              generalize w8.drew = w9 at *
              refine tk 0 ?_
              refine tk 1 ?_
              refine dr_val 2 _ rfl (by decide +kernel) rfl rfl (fun w9 hS9 => val_load1 hT rfl rfl rfl ((hS9.blk hL8.hx (by simp)).cell rfl)) hS ?_
              refine tk 3 ?_
              refine dr_val 4 _ rfl (by decide +kernel) rfl rfl (fun w9 hS9 => val_load1 hT rfl rfl rfl ((hS9.blk hL8.hx (by simp)).cell rfl)) hS ?_
              have hN := needed_ret op 118 w9
              rw [(needC_all op).2.2.1] at hN
              refine dr_op 5 rfl (by decide +kernel) rfl rfl (opTo_call rfl rfl rfl rfl (by decide +kernel) (hN.mono ?_))
              rintro v10 w10 ⟨rfl, rfl⟩
              refine ⟨fun _ => hS, ?_⟩
              refine dr_op 6 rfl (by decide +kernel) rfl rfl (opTo_call rfl rfl rfl rfl (by decide +kernel) ((variable_ret (hS.blk hL8.hj (by simp)) v (needV op)).mono ?_))
              rintro v11 w11 ⟨rfl, hJ11, hk11⟩
              refine ⟨fun h => absurd h (by simp), ?_⟩
              refine dr_done (by decide +kernel) ?_
              have hck : varC nv v (needV op) c8 = lookK nv ni (deep : Nat) (knownS op) (fitsS op e f lb.length lo.length) (needV op) v := by
                rw [hc8, hc7, hc6, fits_x]
                exact look_chain nv ni (deep : Nat) (knownS op) (x1 op e f) (x2 op lb.length lo.length) (needV op) v _ _ _ rfl (by cases x1 op e f <;> cases x2 op lb.length lo.length <;> rfl)
              have hL11 := (hL8.keep hS).turn hJ11 hk11
              generalize varC nv v (needV op) c8 = cc at *
              clear hc6 hc7 hc8 hL4 hL5 hL6 hL7 hL8 hS hJ5 hk5 hJ11 hk11 hN hJ2'
              have hcc0 : cc = 0 → ni + 1 ≤ 150 ∧ deep ≤ 12 := fun h => by have := look_room (hck.symm.trans h); omega
              -- E
              refine rn_seq ?_
              refine rn_with (fun σ' w' => ∃ n1 c1, Tr (fun k => if needE op then chkE nv e (deep + 1) k else .ok k) (ni + 1) cc n1 c1 ∧ Lk F w2 w' j x nv capv av b n1 c1 [.int .i64 op, .int .i64 v, e0, e1, e2, e3, f0, f1, f2, f3, .slice ab lb.length capb, .slice ao lo.length capo] ∧ Sub [(0, .pointer (some ⟨j, 0, none⟩)), (1, .slice (some ⟨bb, q, none⟩) l.length cap), (2, .int .i64 (deep : Nat)), (6, .int .i64 (i : Nat)), (7, .pointer (some ⟨x, 0, none⟩))] σ') ?_ ?_
              · rintro σ' w12 ⟨n1, c1, hT1, hL12, hsub⟩
                refine rn_sub hsub ?_
                refine rn_seq ?_
                refine rn_with (fun σ' w' => ∃ n2 c2, Tr (fun k => if needF op then chkE nv f (deep + 1) k else .ok k) n1 c1 n2 c2 ∧ Lk F w2 w' j x nv capv av b n2 c2 [.int .i64 op, .int .i64 v, e0, e1, e2, e3, f0, f1, f2, f3, .slice ab lb.length capb, .slice ao lo.length capo] ∧ Sub [(0, .pointer (some ⟨j, 0, none⟩)), (1, .slice (some ⟨bb, q, none⟩) l.length cap), (2, .int .i64 (deep : Nat)), (6, .int .i64 (i : Nat)), (7, .pointer (some ⟨x, 0, none⟩))] σ') ?_ ?_
                · rintro σ' w13 ⟨n2, c2, hT2, hL13, hsub⟩
                  refine rn_sub hsub ?_
                  have hd2 : (deep + 1 ≤ 13 ∨ (c2 ≠ 0 ∧ deep + 1 ≤ 14)) := by
                    by_cases hz : cc = 0
                    · exact .inl (by have := hcc0 hz; omega)
                    · have h1 := hT1.1 hz
                      have h2 := hT2.1 (by rw [h1.2]; exact hz)
                      exact .inr ⟨by rw [h2.2, h1.2]; exact hz, by omega⟩
                  refine au ?_
                  refine pl_val _ rfl rfl (val_load1 hT rfl rfl rfl (hL13.hx.cell rfl)) ?_
                  refine au ?_
                  refine pl_num (((deep + 1 : Nat) : Int)) rfl rfl rfl rfl rfl (by simp only [ariP]; omega) ?_
                  refine pl_op rfl rfl (opTo_call rfl rfl rfl rfl (by decide +kernel) ((ih lb (by omega) (by omega) (deep + 1) n2 c2 (hst.hb.keep hL13.hk hst2) (hF2.keep hL13.hk) hFj hL13.hj hd2 hT2.2.2.1 hT2.2.2.2).mono ?_))
                  rintro v14 w14 ⟨rfl, ⟨n3, c3, hJ14, hT3⟩, hk14⟩
                  have hL14 := hL13.turn hJ14 hk14
                  have hd3 : (deep + 1 ≤ 13 ∨ (c3 ≠ 0 ∧ deep + 1 ≤ 14)) := by
                    rcases hd2 with h | ⟨h, h'⟩
                    · exact .inl h
                    · exact .inr ⟨by rw [(hT3.1 h).2]; exact h, h'⟩
                  refine au ?_
                  refine pl_val _ rfl rfl (val_load1 hT rfl rfl rfl (hL14.hx.cell rfl)) ?_
                  refine au ?_
                  refine pl_num (((deep + 1 : Nat) : Int)) rfl rfl rfl rfl rfl (by simp only [ariP]; omega) ?_
                  refine pl_op rfl rfl (opTo_call rfl rfl rfl rfl (by decide +kernel) ((ih lo (by omega) (by omega) (deep + 1) n3 c3 (hst.ho.keep hL14.hk hst2) (hF2.keep hL14.hk) hFj hL14.hj hd3 hT3.2.2.1 hT3.2.2.2).mono ?_))
                  rintro v15 w15 ⟨rfl, ⟨n4, c4, hJ15, hT4⟩, hk15⟩
                  have hL15 := hL14.turn hJ15 hk15
                  refine au ?_
                  refine pl_num (((i + 1 : Nat) : Int)) rfl rfl rfl rfl rfl (by simp only [ariP]; omega) ?_
                  refine au ?_
                  have hTT := Tr.seq hT1 (coded_ite (codedE nv e _ _) (coded_ok _)) (Tr.seq hT2 (coded_ite (codedE nv f _ _) (coded_ok _)) (Tr.seq hT3 (codedSs nv lb _ _) hT4))
                  have hkw15 : Keep [j] w w15 := hk2.tr hL15.hk
                  refine rn_sub ?_ (ih2 (l.length - (i + 1)) [(0, .pointer (some ⟨j, 0, none⟩)), (1, .slice (some ⟨bb, q, none⟩) l.length cap), (2, .int .i64 (deep : Nat)), (6, .int .i64 ((i + 1 : Nat) : Int))] w15 (by omega)
                    ⟨i + 1, n4, c4, by omega, rfl, rfl, hL15.hj, hkw15, hTT.2.2.1, hTT.2.2.2, ?_⟩)
                  · exact ⟨rfl, rfl, rfl, rfl, trivial⟩
                  · by_cases hz : cc = 0
                    · have hS : chkS nv (.mk op v e f lb lo) deep ni = _ := chkS_look nv deep ni op v e f lb lo
                      rw [← hck, if_neg (by simp [hz])] at hS
                      have ht := hTT.2.1 hz
                      cases hxs : chkS nv (.mk op v e f lb lo) deep ni with
                      | ok q' =>
                        obtain ⟨rfl, rfl⟩ := ht.1 q' (by rw [← hxs, hS])
                        exact .inl ⟨hc0, rfl, by rw [hat.1, hxs]⟩
                      | error er =>
                        have := ht.2 er (by rw [← hxs, hS])
                        subst this
                        exact .inr ⟨codedS nv _ _ _ _ hxs, .inl ⟨hc0, hat.2 _ hxs⟩⟩
                    · have ht := hTT.1 hz
                      have hxs : chkS nv (.mk op v e f lb lo) deep ni = .error cc := by rw [chkS_look, ← hck, if_pos hz]
                      rw [ht.2]
                      exact .inr ⟨hz, .inl ⟨hc0, hat.2 _ hxs⟩⟩
                · intro fin
                  refine au ?_
                  refine pl_val _ rfl rfl (val_load1 hT rfl rfl rfl (hL12.hx.cell rfl)) ?_
                  have hN := needed_ret op 102 w12
                  rw [(needC_all op).2.1] at hN
                  refine pl_op rfl rfl (opTo_call rfl rfl rfl rfl (by decide +kernel) (hN.mono ?_))
                  rintro v13 w13 ⟨rfl, rfl⟩
                  cases hbf : needF op with
                  | false =>
                    refine pl_nil ?_
                    refine rn_false rfl ?_
                    refine rn_skip ?_
                    exact fin _ _ ⟨n1, c1, by simp only [hbf]; exact Tr.id hT1.2.2.1 hT1.2.2.2, hL12, rfl, rfl, rfl, rfl, rfl, trivial⟩
                  | true =>
                    refine pl_nil ?_
                    refine rn_true rfl ?_
                    refine rn_plain ?_
                    refine au ?_
                    refine pl_val _ rfl rfl (val_load [f0, f1, f2, f3] hT rfl rfl rfl (hL12.hx.range (by rfl))) ?_
                    refine au ?_
                    refine pl_num (((deep + 1 : Nat) : Int)) rfl rfl rfl rfl rfl (by simp only [ariP]; omega) ?_
                    refine pl_op rfl rfl (opTo_call rfl rfl rfl rfl (by decide +kernel) ((lookExpr_ret _ f (Nat.le_refl _) (by omega) (deep + 1) n1 c1 (hst.hf.keep hL12.hk hst2) (hF2.keep hL12.hk) hFj hL12.hj (by omega) hT1.2.2.1 hT1.2.2.2).mono ?_))
                    rintro v14 w14 ⟨rfl, ⟨n2, c2, hJ14, hT2⟩, hk14⟩
                    refine pl_nil ?_
                    exact fin _ _ ⟨n2, c2, by simp only [hbf]; exact hT2, hL12.turn hJ14 hk14, rfl, rfl, rfl, rfl, rfl, trivial⟩
              · intro fin
                refine au ?_
                refine pl_val _ rfl rfl (val_load1 hT rfl rfl rfl (hL11.hx.cell rfl)) ?_
                have hN := needed_ret op 101 w11
                rw [(needC_all op).1] at hN
                refine pl_op rfl rfl (opTo_call rfl rfl rfl rfl (by decide +kernel) (hN.mono ?_))
                rintro v13 w13 ⟨rfl, rfl⟩
                cases hbe : needE op with
                | false =>
                  refine pl_nil ?_
                  refine rn_false rfl ?_
                  refine rn_skip ?_
                  exact fin _ _ ⟨ni + 1, cc, by simp only [hbe]; exact Tr.id (by omega) (fun h => (hcc0 h).1), hL11, rfl, rfl, rfl, rfl, rfl, trivial⟩
                | true =>
                  refine pl_nil ?_
                  refine rn_true rfl ?_
                  refine rn_plain ?_
                  refine au ?_
                  refine pl_val _ rfl rfl (val_load [e0, e1, e2, e3] hT rfl rfl rfl (hL11.hx.range (by rfl))) ?_
                  refine au ?_
                  refine pl_num (((deep + 1 : Nat) : Int)) rfl rfl rfl rfl rfl (by simp only [ariP]; omega) ?_
                  refine pl_op rfl rfl (opTo_call rfl rfl rfl rfl (by decide +kernel) ((lookExpr_ret _ e (Nat.le_refl _) (by omega) (deep + 1) (ni + 1) cc (hst.he.keep hL11.hk hst2) (hF2.keep hL11.hk) hFj hL11.hj (by omega) (by omega) (fun h => (hcc0 h).1)).mono ?_))
                  rintro v14 w14 ⟨rfl, ⟨n2, c2, hJ14, hT2⟩, hk14⟩
                  refine pl_nil ?_
                  exact fin _ _ ⟨n2, c2, by simp only [hbe]; exact hT2, hL11.turn hJ14 hk14, rfl, rfl, rfl, rfl, rfl, trivial⟩
            · intro fin
              refine au ?_
              refine pl_val _ rfl rfl (val_load1 hT rfl rfl rfl (hL7.hx.cell rfl)) ?_
              have hN := needed_ret op 98 w7
              rw [(needC_all op).2.2.2.1] at hN
              refine pl_op rfl rfl (opTo_call rfl rfl rfl rfl (by decide +kernel) (hN.mono ?_))
              rintro v8 w8 ⟨rfl, rfl⟩
              have hX8 := hL7.hx
              have hN2 := needed_ret op 111 w8
              rw [(needC_all op).2.2.2.2] at hN2
              have stop : ∀ (is : Bool), is = !x2 op lb.length lo.length → ∀ (σ : Env), True → Ret Tryz.prog 53 [.pointer (some ⟨j, 0, none⟩), .bool is, .int .i64 5] w8 fun r w' => r = .tuple #[] ∧ Lk F w2 w' j x nv capv av b (ni + 1) (badC (!x2 op lb.length lo.length) c7 5) [.int .i64 op, .int .i64 v, e0, e1, e2, e3, f0, f1, f2, f3, .slice ab lb.length capb, .slice ao lo.length capo] := fun is his σ _ => by
                subst his
                exact (bad_ret hL7.hj _ 5).mono fun r w' ⟨h1, h2, h3⟩ => ⟨h1, hL7.turn h2 h3⟩
              cases hbb : needB op with
              | true =>
                refine aub ?_
                refine pl_op rfl rfl (opTo_call rfl rfl rfl rfl (by decide +kernel) (hN2.mono ?_))
                rintro v9 w9 ⟨rfl, rfl⟩
                cases hbo : needO op with
                | true =>
                  refine au ?_
                  refine pl_op rfl rfl (opTo_call rfl rfl rfl rfl (by decide +kernel) ((stop false (by simp [x2, hbb, hbo]) [] trivial).mono ?_))
                  rintro v10 w10 ⟨rfl, hL10⟩
                  refine pl_nil ?_
                  exact fin _ _ ⟨_, rfl, hL10, rfl, rfl, rfl, rfl, rfl, trivial⟩
                | false =>
                  refine aub ?_
                  refine pl_val (.bool (!x2 op lb.length lo.length)) rfl rfl (val_int .i64 _ _ _ rfl rfl rfl (by simp only [intOp, x2, hbb, hbo]; congr 2; rw [Bool.eq_iff_iff]; simp [List.length_pos_iff]) _) ?_
                  refine au ?_
                  refine pl_op rfl rfl (opTo_call rfl rfl rfl rfl (by decide +kernel) ((stop _ rfl [] trivial).mono ?_))
                  rintro v10 w10 ⟨rfl, hL10⟩
                  refine pl_nil ?_
                  exact fin _ _ ⟨_, rfl, hL10, rfl, rfl, rfl, rfl, rfl, trivial⟩
              | false =>
                by_cases hlb : lb.length = 0
                · refine aub ?_
                  refine pl_op rfl rfl (opTo_call rfl rfl rfl rfl (by decide +kernel) (hN2.mono ?_))
                  rintro v9 w9 ⟨rfl, rfl⟩
                  cases hbo : needO op with
                  | true =>
                    refine au ?_
                    refine pl_op rfl rfl (opTo_call rfl rfl rfl rfl (by decide +kernel) ((stop false (by simp [x2, hbb, hbo, hlb]) [] trivial).mono ?_))
                    rintro v10 w10 ⟨rfl, hL10⟩
                    refine pl_nil ?_
                    exact fin _ _ ⟨_, rfl, hL10, rfl, rfl, rfl, rfl, rfl, trivial⟩
                  | false =>
                    refine aub ?_
                    refine pl_val (.bool (!x2 op lb.length lo.length)) rfl rfl (val_int .i64 _ _ _ rfl rfl rfl (by simp only [intOp, x2, hbb, hbo, hlb]; congr 2; rw [Bool.eq_iff_iff]; simp [List.length_pos_iff]) _) ?_
                    refine au ?_
                    refine pl_op rfl rfl (opTo_call rfl rfl rfl rfl (by decide +kernel) ((stop _ rfl [] trivial).mono ?_))
                    rintro v10 w10 ⟨rfl, hL10⟩
                    refine pl_nil ?_
                    exact fin _ _ ⟨_, rfl, hL10, rfl, rfl, rfl, rfl, rfl, trivial⟩
                · refine aub ?_
                  refine pl_op rfl rfl (opTo_call rfl rfl rfl rfl (by decide +kernel) ((stop true (by simp [x2, hbb]; exact .inl (fun h => by subst h; simp at hlb)) [] trivial).mono ?_))
                  rintro v10 w10 ⟨rfl, hL10⟩
                  refine pl_nil ?_
                  exact fin _ _ ⟨_, rfl, hL10, rfl, rfl, rfl, rfl, rfl, trivial⟩
          · intro fin
            refine au ?_
            refine pl_val _ rfl rfl (val_load1 hT rfl rfl rfl (hL6.hx.cell rfl)) ?_
            have hN := needed_ret op 101 w6
            rw [(needC_all op).1] at hN
            refine pl_op rfl rfl (opTo_call rfl rfl rfl rfl (by decide +kernel) (hN.mono ?_))
            rintro v8 w8 ⟨rfl, rfl⟩
            have stop : ∀ (w9 : World) (is : Bool), is = !x1 op e f → Keep [] w8 w9 → Ret Tryz.prog 53 [.pointer (some ⟨j, 0, none⟩), .bool is, .int .i64 5] w9 fun r w' => r = .tuple #[] ∧ Lk F w2 w' j x nv capv av b (ni + 1) (badC (!x1 op e f) c6 5) [.int .i64 op, .int .i64 v, e0, e1, e2, e3, f0, f1, f2, f3, .slice ab lb.length capb, .slice ao lo.length capo] := fun w9 is his hk9 => by
              subst his
              exact (bad_ret (hL6.keep hk9).hj _ 5).mono fun r w' ⟨h1, h2, h3⟩ => ⟨h1, (hL6.keep hk9).turn h2 h3⟩
            have hX8 := hL6.hx
            cases hbe : needE op with
            | true =>
              refine aub ?_
              have hN2 := needed_ret op 102 w8
              rw [(needC_all op).2.1] at hN2
              refine pl_op rfl rfl (opTo_call rfl rfl rfl rfl (by decide +kernel) (hN2.mono ?_))
              rintro v9 w9 ⟨rfl, rfl⟩
              cases hbf : needF op with
              | true =>
                refine au ?_
                refine pl_op rfl rfl (opTo_call rfl rfl rfl rfl (by decide +kernel) ((stop _ false (by simp [x1, hbe, hbf]) (Keep.refl _ _)).mono ?_))
                rintro v10 w10 ⟨rfl, hL10⟩
                refine pl_nil ?_
                exact fin _ _ ⟨_, rfl, hL10, rfl, rfl, rfl, rfl, rfl, trivial⟩
              | false =>
                refine au ?_
                refine pl_val _ rfl rfl (val_load [f0, f1, f2, f3] hT rfl rfl rfl (hX8.range (by rfl))) ?_
                refine pl_op rfl rfl (opTo_call rfl rfl rfl rfl (by decide +kernel) ((zeroExpr_ret (hst.hf.keep hL6.hk hst2)).mono ?_))
                rintro v10 w10 ⟨rfl, hk10⟩
                refine au ?_
                refine pl_op rfl rfl (opTo_call rfl rfl rfl rfl (by decide +kernel) ((stop _ _ (by simp [x1, hbe, hbf]) hk10).mono ?_))
                rintro v11 w11 ⟨rfl, hL11⟩
                refine pl_nil ?_
                exact fin _ _ ⟨_, rfl, hL11, rfl, rfl, rfl, rfl, rfl, trivial⟩
            | false =>
              refine au ?_
              refine pl_val _ rfl rfl (val_load [e0, e1, e2, e3] hT rfl rfl rfl (hX8.range (by rfl))) ?_
              refine pl_op rfl rfl (opTo_call rfl rfl rfl rfl (by decide +kernel) ((zeroExpr_ret (hst.he.keep hL6.hk hst2)).mono ?_))
              rintro v9 w9 ⟨rfl, hk9⟩
              cases hz1 : zeroE e with
              | false =>
                refine au ?_
                refine pl_op rfl rfl (opTo_call rfl rfl rfl rfl (by decide +kernel) ((stop _ true (by simp [x1, hbe, hz1]) hk9).mono ?_))
                rintro v11 w11 ⟨rfl, hL11⟩
                refine pl_nil ?_
                exact fin _ _ ⟨_, rfl, hL11, rfl, rfl, rfl, rfl, rfl, trivial⟩
              | true =>
                have hX9 := hk9.blk hX8 (by simp)
                refine aub ?_
                have hN2 := needed_ret op 102 w9
                rw [(needC_all op).2.1] at hN2
                refine pl_op rfl rfl (opTo_call rfl rfl rfl rfl (by decide +kernel) (hN2.mono ?_))
                rintro v10 w10 ⟨rfl, rfl⟩
                cases hbf : needF op with
                | true =>
                  refine au ?_
                  refine pl_op rfl rfl (opTo_call rfl rfl rfl rfl (by decide +kernel) ((stop _ false (by simp [x1, hbe, hbf, hz1]) hk9).mono ?_))
                  rintro v11 w11 ⟨rfl, hL11⟩
                  refine pl_nil ?_
                  exact fin _ _ ⟨_, rfl, hL11, rfl, rfl, rfl, rfl, rfl, trivial⟩
                | false =>
                  refine au ?_
                  refine pl_val _ rfl rfl (val_load [f0, f1, f2, f3] hT rfl rfl rfl (hX9.range (by rfl))) ?_
                  refine pl_op rfl rfl (opTo_call rfl rfl rfl rfl (by decide +kernel) ((zeroExpr_ret ((hst.hf.keep hL6.hk hst2).keep hk9 (hF2.keep hL6.hk).stays)).mono ?_))
                  rintro v11 w11 ⟨rfl, hk11⟩
                  refine au ?_
                  refine pl_op rfl rfl (opTo_call rfl rfl rfl rfl (by decide +kernel) ((stop _ _ (by simp [x1, hbe, hbf, hz1]) (hk9.tr hk11)).mono ?_))
                  rintro v12 w12 ⟨rfl, hL12⟩
                  refine pl_nil ?_
                  exact fin _ _ ⟨_, rfl, hL12, rfl, rfl, rfl, rfl, rfl, trivial⟩
        · intro fin
          have hX5 := hL5.hx
          by_cases h1 : op < 1
          · refine aub ?_
            refine pl_op rfl rfl (opTo_call rfl rfl rfl rfl (by decide +kernel) ((bad_ret hL5.hj true 2).mono ?_))
            rintro v6 w6 ⟨rfl, hJ6, hk6⟩
            refine pl_nil ?_
            exact fin _ _ ⟨_, by simp [knownS, show ¬ 1 ≤ op by omega], hL5.turn hJ6 hk6, rfl, rfl, rfl, rfl, rfl, trivial⟩
          · refine aub ?_
            refine pl_val (.bool (!knownS op)) rfl rfl (val_int .i64 _ _ _ rfl rfl rfl (by simp only [intOp, knownS]; congr 2; rw [Bool.eq_iff_iff]; simp; omega) w5) ?_
            refine au ?_
            refine pl_op rfl rfl (opTo_call rfl rfl rfl rfl (by decide +kernel) ((bad_ret hL5.hj (!knownS op) 2).mono ?_))
            rintro v6 w6 ⟨rfl, hJ6, hk6⟩
            refine pl_nil ?_
            exact fin _ _ ⟨_, rfl, hL5.turn hJ6 hk6, rfl, rfl, rfl, rfl, rfl, trivial⟩
      · refine aub ?_
        exact rn_end Tryz.func29 (.inr (.inl ⟨rfl, rfl⟩)) ⟨rfl, ⟨ni, ci, hJ2, hend (.inr hcz)⟩, hk2⟩
    · refine nay ?_
      refine au ?_
      exact rn_end Tryz.func29 (.inr (.inl ⟨rfl, rfl⟩)) ⟨rfl, ⟨ni, ci, hJ2, hend (.inl (by omega))⟩, hk2⟩
end E
end Go.Proofs.YtmplkogkphmmjafGreat

/- Contracts of the document's ProgramFault and Same. -/
namespace Go.Proofs.YtmplkogkphmmjafGreat
set_option maxRecDepth 20000
set_option maxHeartbeats 4000000
namespace E
open Go.Proofs

theorem built_looking (a b : Option Addr) (m c m' c' : Nat) : Tryz.prog.built tLk [(0, .agg #[.slice a m c, .slice b m' c'])] = some [Value.slice a m c, .slice b m' c', .int .i64 0, .int .i64 0].toArray := by kernel_rfl

theorem refFault_ret {F : Nat → Prop} {w : World} {x : Value} {vs : List VarT} {body : List ST} (h : ProgV F w x vs body) (hF : In F w) (hnm : ∀ y ∈ vs, y.1.size ≤ 100000) (hsz : szSs body ≤ 100000) :
    Ret Tryz.prog 9 [x] w fun r w' => r = .int .i64 (progFault vs body) ∧ Keep [] w w' := by
  obtain ⟨vv, bv, rfl, hv, hb⟩ := h
  obtain ⟨av, capv, rfl⟩ := hv.form
  obtain ⟨ab, capb, rfl⟩ := hb.form
  refine ret_of 72 Tryz.func9 rfl rfl (by simp) ?_
  refine au ?_
  refine pl_op rfl rfl (opTo_boxN [.slice av vs.length capv, .slice ab body.length capb] rfl rfl rfl ?_)
  intro w1 p hp hs1 hk1 hB1
  refine au ?_
  refine pl_val _ rfl rfl (val_load1 hT rfl rfl rfl (hB1.cell rfl)) ?_
  refine au ?_
  unfold progFault
  by_cases h8 : vs.length > 8
  · rw [if_pos h8]
    refine ye ?_
    refine au ?_
    exact rn_ret Tryz.func9 (.inl ⟨_, rfl, rfl⟩) ⟨rfl, hk1⟩
  rw [if_neg h8]
  refine nay ?_
  refine au ?_
  refine rn_ind (fun m σ w' => ∃ i : Nat, i ≤ vs.length ∧ m = vs.length - i ∧ σ = [(1, .pointer (some ⟨p, 0, none⟩)), (3, .int .i64 (sumV (vs.take i))), (4, .int .i64 (i : Nat))] ∧
    chkV [] 0 vs = chkV ((vs.take i).map (·.1)) (sumV (vs.take i)) (vs.drop i) ∧ 0 ≤ sumV (vs.take i) ∧ sumV (vs.take i) ≤ 48 ∧ Blk w' p [.slice av vs.length capv, .slice ab body.length capb] 25 ∧ Keep [] w w') vs.length _ ?_ ⟨0, by omega, by omega, rfl, by simp [sumV], by simp [sumV], by simp [sumV], hB1, hk1⟩ ?_
  · exact ⟨rfl, rfl, rfl, trivial⟩
  rintro m σ w2 ih ⟨i, hi, rfl, rfl, hch, hs0, hs48, hB2, hk2⟩
  refine au ?_
  refine pl_val _ rfl rfl (val_load1 hT rfl rfl rfl (hB2.cell rfl)) ?_
  refine au ?_
  by_cases hlt : i < vs.length
  · refine ye ?_
    refine au ?_
    refine pl_val _ rfl rfl (val_load1 hT rfl rfl rfl (hB2.cell rfl)) ?_
    refine au ?_
    have hget : vs[i]? = some vs[i] := List.getElem?_eq_getElem hlt
    have hnmi := hnm vs[i] (List.getElem_mem _)
    obtain ⟨nm, sz, hnz⟩ : ∃ nm sz, vs[i] = (nm, sz) := ⟨_, _, rfl⟩
    rw [hnz] at hget hnmi
    replace hnmi : nm.size ≤ 100000 := hnmi
    rw [chkV_at hget] at hch
    have hsu : sumV (vs.take (i + 1)) = sumV (vs.take i) + sz := sumV_take_succ hget
    replace hch : chkV [] 0 vs = if nameOk nm = false then 8 else if (vs.take i).any (sameName (nm, sz)) = true then 9 else if sz < 1 ∨ sz > 48 ∨ sumV (vs.take i) + sz > 48 then 1 else chkV ((vs.take (i + 1)).map (·.1)) (sumV (vs.take (i + 1))) (vs.drop (i + 1)) := hch
    obtain ⟨bb, q, cap', hvv, hFb, hra⟩ := (hv.keep hk2 hF.stays).at hget
    cases hvv
    refine pl_val _ rfl rfl (val_index i hT rfl rfl rfl rfl rfl hlt w2) ?_
    refine pl_val _ rfl rfl (val_load (vcell (nm, sz)) hT rfl rfl rfl hra) ?_
    refine pl_op rfl rfl (opTo_allocN _ rfl zero_var ?_)
    intro w3 c hc3 hs3 hk3 hC3
    refine pl_op rfl rfl (opTo_storeN _ rfl rfl rfl rfl (by kernel_rfl) hC3 (by simp [vcell, varZ]) (vcell_one _) ?_)
    intro w4 hs4 hk4 hC4
    rw [splice_whole (by rfl)] at hC4
    have hk24 : Keep [] w2 w4 := hk3.trB hk4 (by omega)
    have hB4 := hk24.blk hB2 (by simp)
    have hk4w := hk2.tr hk24
    unfold vcell at hC4
    clear hk3 hk4 hC3
    refine au ?_
    refine pl_val _ rfl rfl (val_load1 hT rfl rfl rfl (hC4.cell rfl)) ?_
    refine pl_op rfl rfl (opTo_call rfl rfl rfl rfl (by decide +kernel) ((nameText_ret nm (by omega) w4).mono ?_))
    rintro v5 w5 ⟨rfl, rfl⟩
    cases hno : nameOk nm with
    | false =>
      refine au ?_
      refine rn_ret Tryz.func9 (.inl ⟨_, rfl, rfl⟩) ⟨?_, hk4w⟩
      have hcv : chkV [] 0 vs = 8 := by rw [hch, if_pos hno]
      rw [hcv]
      rfl
    | true =>
      rw [hno, if_neg (by simp)] at hch
      refine au ?_
      refine rn_ind (fun m σ w' => ∃ k : Nat, k ≤ i ∧ m = i - k ∧ σ = [(1, .pointer (some ⟨p, 0, none⟩)), (3, .int .i64 (sumV (vs.take i))), (4, .int .i64 (i : Nat)), (5, .pointer (some ⟨c, 0, none⟩)), (6, .int .i64 (k : Nat))] ∧ (vs.take k).any (sameName (nm, sz)) = false ∧ Keep [] w5 w') i _ ?_ ⟨0, by omega, by omega, rfl, by simp, Keep.refl _ _⟩ ?_
      · exact ⟨rfl, rfl, rfl, rfl, rfl, trivial⟩
      rintro m σ w6 ih3 ⟨k, hk, rfl, rfl, hany, hk6⟩
      refine au ?_
      by_cases hki : k < i
      · refine ye ?_
        refine au ?_
        have hgk : vs[k]? = some (vs[k]'(by omega)) := List.getElem?_eq_getElem (by omega)
        have hmem : vs[k]'(by omega) ∈ vs.take i := by
          rw [List.mem_iff_getElem?]
          exact ⟨k, by rw [List.getElem?_take, if_pos hki]; exact hgk⟩
        obtain ⟨b2, q2, _, hv2, hF2, hr2⟩ := hv.at hgk
        cases hv2
        have hsuk : (vs.take (k + 1)).any (sameName (nm, sz)) = sameName (nm, sz) (vs[k]'(by omega)) := by
          rw [List.take_succ_eq_append_getElem (by omega), List.any_append, hany]
          simp
        generalize vs[k]'(by omega) = y at *
        have hkw6 := hk4w.tr hk6
        refine rn_draw (fun w' => Keep [] w6 w') [] hMix ?_
        have hS : Keep [] w6 w6.drew := (Keep.refl _ _).drew
        generalize w6.drew = w7 at *
        refine tk 0 ?_
        refine dr_val 1 _ rfl (by decide +kernel) rfl rfl (fun w9 hS9 => val_load1 hT rfl rfl rfl (((hk6.tr hS9).blk hB4 (by simp)).cell rfl)) hS ?_
        refine tk 2 ?_
        refine dr_any 3 _ rfl (by decide +kernel) rfl rfl (fun w => val_index k hT rfl rfl rfl rfl rfl (by omega) w) ?_
        refine tk 4 ?_
        refine dr_val 5 (.string y.1) rfl (by decide +kernel) rfl rfl (fun w9 hS9 => val_load1 hT rfl rfl rfl (range_keep hr2 (hkw6.tr hS9) (hF _ hF2) (by simp) 0 (.string y.1) rfl)) hS ?_
        refine tk 6 ?_
        refine dr_val 7 _ rfl (by decide +kernel) rfl rfl (fun w9 hS9 => val_load1 hT rfl rfl rfl (((hk6.tr hS9).blk hC4 (by simp)).cell rfl)) hS ?_
        refine dr_any 8 (.bool (sameName (nm, sz) y)) rfl (by decide +kernel) rfl rfl (fun w => val_eqStr y.1 nm _ rfl rfl rfl rfl w) ?_
        refine dr_done (by decide +kernel) ?_
        cases hsn : sameName (nm, sz) y with
        | true =>
          refine au ?_
          refine rn_ret Tryz.func9 (.inl ⟨_, rfl, rfl⟩) ⟨?_, hkw6.tr hS⟩
          have hcv : chkV [] 0 vs = 9 := by rw [hch, if_pos (List.any_eq_true.2 ⟨_, hmem, hsn⟩)]
          rw [hcv]
          rfl
        | false =>
          refine au ?_
          refine pl_num (((k + 1 : Nat) : Int)) rfl rfl rfl rfl rfl (by simp only [ariP]; omega) ?_
          refine au ?_
          refine rn_sub ?_ (ih3 (i - (k + 1)) [(1, .pointer (some ⟨p, 0, none⟩)), (3, .int .i64 (sumV (vs.take i))), (4, .int .i64 (i : Nat)), (5, .pointer (some ⟨c, 0, none⟩)), (6, .int .i64 ((k + 1 : Nat) : Int))] w7 (by omega) ⟨k + 1, by omega, rfl, rfl, by rw [hsuk, hsn], hk6.tr hS⟩)
          exact ⟨rfl, rfl, rfl, rfl, rfl, trivial⟩
      · have hki' : k = i := by omega
        subst hki'
        rw [if_neg (by rw [hany]; simp)] at hch
        have hC6 := hk6.blk hC4 (by simp)
        have hB6 := hk6.blk hB4 (by simp)
        have hkw6 := hk4w.tr hk6
        refine nay ?_
        refine au ?_
        by_cases h1 : sz < 1
        · refine aub ?_
          refine rn_ret Tryz.func9 (.inl ⟨_, rfl, rfl⟩) ⟨?_, hkw6⟩
          have hcv : chkV [] 0 vs = 1 := by rw [hch, if_pos (.inl h1)]
          rw [hcv]
          rfl
        · by_cases h2 : sz > 48
          · refine aub ?_
            refine rn_ret Tryz.func9 (.inl ⟨_, rfl, rfl⟩) ⟨?_, hkw6⟩
            have hcv : chkV [] 0 vs = 1 := by rw [hch, if_pos (.inr (.inl h2))]
            rw [hcv]
            rfl
          · refine aub ?_
            refine pl_num (sumV (vs.take (k + 1))) rfl rfl rfl rfl rfl (by simp only [ariP]; omega) ?_
            by_cases h3 : sumV (vs.take k) + sz > 48
            · refine aub ?_
              refine rn_ret Tryz.func9 (.inl ⟨_, rfl, rfl⟩) ⟨?_, hkw6⟩
              have hcv : chkV [] 0 vs = 1 := by rw [hch, if_pos (.inr (.inr h3))]
              rw [hcv]
              rfl
            · rw [if_neg (by omega)] at hch
              refine aub ?_
              refine pl_num (sumV (vs.take (k + 1))) rfl rfl rfl rfl rfl (by simp only [ariP]; omega) ?_
              refine au ?_
              refine pl_num (((k + 1 : Nat) : Int)) rfl rfl rfl rfl rfl (by simp only [ariP]; omega) ?_
              refine au ?_
              refine rn_sub ?_ (ih (vs.length - (k + 1)) [(1, .pointer (some ⟨p, 0, none⟩)), (3, .int .i64 (sumV (vs.take (k + 1)))), (4, .int .i64 ((k + 1 : Nat) : Int))] w6 (by omega) ⟨k + 1, by omega, rfl, rfl, hch, by omega, by omega, hB6, hkw6⟩)
              exact ⟨rfl, rfl, rfl, trivial⟩
  · refine nay ?_
    refine au ?_
    have hz : chkV [] 0 vs = 0 := by rw [hch, List.drop_eq_nil_of_le (by omega)]; rfl
    rw [hz]
    simp only [ne_eq, not_true_eq_false, if_false]
    refine pl_val _ rfl rfl (val_load [.slice av vs.length capv, .slice ab body.length capb] hT rfl rfl rfl (hB2.range (by rfl))) ?_
    refine pl_val _ rfl rfl (val_build _ rfl rfl (built_looking _ _ _ _ _ _) w2) ?_
    refine pl_op rfl rfl (opTo_boxN [.slice av vs.length capv, .slice ab body.length capb, .int .i64 0, .int .i64 0] rfl rfl rfl ?_)
    intro w3 j hj hs3 hk3 hJ3
    have hJ3' : Blk w3 j (lkC (.slice av vs.length capv) (.slice ab body.length capb) 0 0) tLk := hJ3
    have hB3 := hk3.blk hB2 (by simp)
    have hk3w := hk2.tr hk3
    refine au ?_
    refine pl_val _ rfl rfl (val_load1 hT rfl rfl rfl (hB3.cell rfl)) ?_
    refine pl_op rfl rfl (opTo_call rfl rfl rfl rfl (by decide +kernel) ((lookList_ret _ body (Nat.lt_succ_self _) hsz 0 0 0 (hb.keep hk3w hF.stays) (hF.keep hk3w) (fun h => by have := hF j h; have := hk2.size; omega) hJ3' (.inl (by omega)) (by omega) (fun _ => by omega)).mono ?_))
    rintro v4 w4 ⟨rfl, ⟨n4, c4, hJ4, hT4⟩, hk4⟩
    have hJ4' := hJ4
    unfold lkC at hJ4'
    refine au ?_
    refine pl_val _ rfl rfl (val_load1 hT rfl rfl rfl (hJ4'.cell rfl)) ?_
    refine au ?_
    refine rn_ret Tryz.func9 (.inl ⟨_, rfl, rfl⟩) ⟨?_, hk3w.trB hk4 (by have := hk2.size; omega)⟩
    have ht := hT4.2.1 rfl
    cases hx : chkSs vs.length body 0 0 with
    | ok q => rw [(ht.1 q hx).2]; rfl
    | error e => rw [ht.2 e hx]; rfl

end E
end Go.Proofs.YtmplkogkphmmjafGreat

/- Contracts of package disk's small functions: Has, New, Wait, and the closures of Flush, Crash and Read. -/
namespace Go.Proofs.YtmplkogkphmmjafGreat
set_option maxRecDepth 20000
set_option maxHeartbeats 4000000
namespace E
open Go.Proofs


/-- A write that waits: its sector, its words. -/
abbrev Wr := Nat × List Int
def wcell (p : Wr) : List Value := .int .i64 p.1 :: ints p.2
def wcells (L : List Wr) : List Value := L.flatMap wcell

/-- There is such a sector. -/
def hasB (i : Int) : Bool := decide (0 ≤ i) && decide (i < 34)

theorem dHas_ret (i : Int) (w : World) : Ret Tryz.prog 131 [.int .i64 i] w fun v w' => v = .bool (hasB i) ∧ w' = w := by
  refine ret_of 9 Tryz.func131 rfl rfl (by simp) ?_
  refine au ?_
  by_cases h0 : 0 ≤ i
  · refine pl_val (.bool true) rfl rfl (val_int .i64 i 0 _ rfl rfl rfl (by simp [intOp, h0]) w) ?_
    refine au ?_
    refine pl_val (.bool (decide (i < 34))) rfl rfl (val_int .i64 i 34 _ rfl rfl rfl (by simp [intOp]) w) ?_
    refine au ?_
    refine rn_ret Tryz.func131 (.inl ⟨_, rfl, rfl⟩) ⟨?_, rfl⟩
    simp [hasB, h0]
  · refine pl_val (.bool false) rfl rfl (val_int .i64 i 0 _ rfl rfl rfl (by simp [intOp, h0]) w) ?_
    refine au ?_
    refine rn_ret Tryz.func131 (.inl ⟨_, rfl, rfl⟩) ⟨?_, rfl⟩
    simp [hasB, h0]

/-- What a disk is in memory: its sectors S (272 words), the writes L that wait; wv: the slice that holds them. -/
structure DiskV (B : Nat) (w : World) (d : Nat) (S : List Int) (L : List Wr) (wv : Value) : Prop where
  blk : Blk w d (ints S ++ [wv]) 113
  owns : w.ownsRow B 184 9 wv L.length (wcells L)
  ne : wv.ownBlock ≠ some d
  len : S.length = 272
  base : B ≤ d
  wf : ∀ p ∈ L, p.1 < 34 ∧ p.2.length = 8

/-- The blocks of a disk. -/
def fpD (d : Nat) (wv : Value) : List Nat := d :: wv.ownBlock.toList

theorem DiskV.keep {B : Nat} {w w' : World} {d : Nat} {S : List Int} {L : List Wr} {wv : Value} {fp : List Nat} (h : DiskV B w d S L wv) (hk : Keep fp w w') (hn : ∀ k ∈ fpD d wv, k ∉ fp) : DiskV B w' d S L wv :=
  ⟨hk.blk h.blk (hn d (by simp [fpD])), hk.owns h.owns fun k e => hn k (by simp [fpD, e]), h.ne, h.len, h.base, h.wf⟩
theorem DiskV.lt {B : Nat} {w : World} {d : Nat} {S : List Int} {L : List Wr} {wv : Value} (h : DiskV B w d S L wv) : ∀ k ∈ fpD d wv, B ≤ k ∧ k < w.heap.size := by
  intro k hk
  simp only [fpD, List.mem_cons, Option.mem_toList] at hk
  rcases hk with rfl | hk
  · exact ⟨h.base, h.blk.lt⟩
  · exact h.owns.lt k hk

theorem new_zero : (Tryz.prog.built 113 []) = some (ints (List.replicate 272 0) ++ [Value.slice none 0 0]).toArray := by kernel_rfl

theorem new_ret (w : World) : Ret Tryz.prog 24 [] w fun v w' => v = .pointer (some ⟨w.heap.size, 0, none⟩) ∧ DiskV w.heap.size w' w.heap.size (List.replicate 272 0) [] (.slice none 0 0) ∧ Keep [] w w' := by
  refine ret_of 3 Tryz.func24 rfl rfl (by simp) ?_
  refine au ?_
  refine pl_val _ rfl rfl (val_build (ints (List.replicate 272 0) ++ [Value.slice none 0 0]) rfl rfl new_zero w) ?_
  refine pl_op rfl rfl (opTo_box _ rfl rfl rfl ?_)
  refine au ?_
  refine rn_ret Tryz.func24 (.inl ⟨_, rfl, rfl⟩) ⟨rfl, ⟨Blk.new w _ _, World.ownsRow_nil _ _ _ _, by simp [Value.ownBlock], List.length_replicate, Nat.le_refl _, by simp⟩, (Keep.refl _ _).alloc _⟩

theorem flush1_ret (i : Int) (w : World) : Ret Tryz.prog 158 [.int .i64 i] w fun v w' => v = .bool true ∧ w' = w := by
  refine ret_of 3 Tryz.func158 rfl rfl (by simp) ?_
  refine au ?_
  exact rn_ret Tryz.func158 (.inl ⟨_, rfl, rfl⟩) ⟨rfl, rfl⟩
end E
end Go.Proofs.YtmplkogkphmmjafGreat
