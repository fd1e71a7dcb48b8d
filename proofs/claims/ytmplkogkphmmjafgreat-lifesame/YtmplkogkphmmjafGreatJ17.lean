/- Several texts in one: LfR, LkA, LkB, LkC, CkA, CkB. -/
import Derived.Test.YtmplkogkphmmjafGreatJ16
import Derived.Test.YtmplkogkphmmjafGreatJ08
import Derived.Test.YtmplkogkphmmjafGreatJ09
/- A life over the landed machine: its machine, its disk between two machines, a step of it, a torn commit, a crash, a wake. -/
namespace Go.Proofs.YtmplkogkphmmjafGreat
set_option maxRecDepth 20000
set_option maxHeartbeats 4000000
namespace E
open Go.Proofs

section
variable {Y : Nat → List Int → Prop} {R : Nat → Prop} {B : Nat} {w w' : World} {x d q : Nat} {fp fp2 : List Nat} {M : Mx} {W KW : List Int} {pv : Value} {p : Pr} {g : Int}
/-- A machine whose words are those of W behind the cells, and W is what it knows. -/
theorem Vm.wds (h : Vm Y W R B w x fp M) (he : Enc W M.md) (hW : W.length = 112) (hc : M.md.cells.length ≤ 48) : Vw Y R B w x fp M W := Vx.mono h fun W' hl e => ⟨e.toEnc, by
  have h1 := e.b.whole hl hW hc
  have h2 : W = ovr W M.md := Enb.whole ⟨he, fun _ _ _ => rfl⟩ hW hW hc
  rw [h1]
  exact h2.symm⟩
theorem Vw.enc (h : Vw Y R B w x fp M W) : Enc W M.md := by
  obtain ⟨d, s, S, W', D, wv, cv, iv, pv, rfl, h, ⟨he, rfl⟩, _⟩ := h
  exact he

/-- Between two machines: nothing waits on the disk at d, it holds the words KW; the printer at q. -/
structure Dk (R : Nat → Prop) (B : Nat) (w : World) (d q : Nat) (pv : Value) (p : Pr) (KW : List Int) (g : Int) : Prop where
  dsk : ∃ S, DiskV B w d S [] (.slice none 0 0) ∧ Good S ∧ allS S = KW ∧ genS S = g
  pr : Pv R B w q pv p
  nr : ¬ R d
theorem Dk.keep (h : Dk R B w d q pv p KW g) (hk : Keep fp2 w w') (hn : ∀ k ∈ fp2, k ∉ d :: q :: obs pv) : Dk R B w' d q pv p KW g := by
  obtain ⟨⟨S, h1, h2⟩, h3, h4⟩ := h
  refine ⟨⟨S, h1.keep hk fun k hm h => ?_, h2⟩, h3.keep hk fun k hm hq => hn k hm (List.mem_cons_of_mem _ hq), h4⟩
  have : k = d := by simpa [fpD, Value.ownBlock] using hm
  exact hn k h (by rw [this]; simp)
theorem Dk.keep0 (h : Dk R B w d q pv p KW g) (hk : Keep [] w w') : Dk R B w' d q pv p KW g := h.keep hk fun k hk => by cases hk
theorem Dk.lt (h : Dk R B w d q pv p KW g) : ∀ k ∈ d :: q :: obs pv, B ≤ k ∧ k < w.heap.size ∧ ¬ R k := fun k hk => by
  obtain ⟨⟨S, h1, h2⟩, h3, h4⟩ := h
  rcases List.mem_cons.1 hk with rfl | hk
  · exact ⟨h1.base, h1.blk.lt, h4⟩
  · exact h3.lt k hk
/-- A new disk and a new printer. -/
theorem Dk.first {B0 : Nat} (hd : DiskV B0 w d (List.replicate 272 0) [] (.slice none 0 0)) (hB0 : B ≤ B0) (hp : Blk w q pz0 tPr) (hq : B ≤ q ∧ ¬ R q) (hnr : ¬ R d) (hro : ∀ k, R k → k < w.heap.size) : Dk R B w d q (.slice none 0 0) ([], false) (List.replicate 112 0) 0 := by
  rw [show List.replicate 272 (0 : Int) = S0 from rfl] at hd
  have hpv : Pv R B w q (.slice none 0 0) ([], false) := ⟨hp, RowL.nil _ _, hq.1, hro, fun k hk => by
    have hk : k = q := by simpa [obs, Value.ownBlock] using hk
    rw [hk]
    exact hq.2⟩
  exact ⟨⟨S0, ⟨hd.blk, World.ownsRow_nil _ _ _ _, hd.ne, hd.len, Nat.le_trans hB0 hd.base, hd.wf⟩, good0, allS0, genS0⟩, hpv, hnr⟩
/-- Those of the blocks alone in which instructions lie. -/
theorem InsV.own {F : Nat → Prop} {v : Value} {l : List Is} (h : InsV F w v l) : ∃ rb : List Nat, (∀ k ∈ rb, F k) ∧ InsV (· ∈ rb) w v l := by
  obtain ⟨a, cap, e, h2⟩ := h
  by_cases h0 : 0 < l.length
  · obtain ⟨b, o, e1, hF, hr⟩ := h2 h0
    exact ⟨[b], fun k hk => by rw [List.mem_singleton.1 hk]; exact hF, a, cap, e, fun _ => ⟨b, o, e1, by simp, hr⟩⟩
  · exact ⟨[], ⟨fun k hk => (by cases hk), a, cap, e, fun h => absurd h h0⟩⟩
theorem disk_off {S : List Int} {L : List Wr} {wv : Value} (hd : DiskV B w d S L wv) (hp : Pv R B w q pv p) : ∀ k ∈ [d], k ∉ q :: obs pv := fun k hk hq => by
  have hk := List.mem_singleton.1 hk
  rcases List.mem_cons.1 hq with h5 | h5
  · exact Blk.ne hd.blk hp.blk (by decide) (hk.symm.trans h5)
  · exact hp.row.ne hd.blk (by decide) k h5 (by rw [hk]; simp)
/-- The disk of a machine crashes. -/
theorem Vw.crash (h : Vw (Yk d KW) R B w x fp M W) (mask : Nat) :
    Ret Tryz.prog 63 [.pointer (some ⟨d, 0, none⟩), .int .u64 (mask : Nat)] w fun r w' => r = .tuple #[] ∧ ∃ pv, Dk R B w' d M.q pv M.pr KW M.gen ∧ Keep [d] w w' ∧ ∀ k ∈ d :: M.q :: obs pv, k ∈ fp := by
  obtain ⟨d', s, S, W', D, wv, cv, iv, pv, rfl, h, ⟨_, rfl⟩, rfl, hK⟩ := h
  refine (crash_ret h.st.dsk (by simp) (mask : Nat)).mono ?_
  rintro r w' ⟨rfl, hd, hk⟩
  have hin : ∀ k ∈ d' :: M.q :: obs pv, k ∈ fpV x d' s M.o.m wv M.o.q pv iv := fun k hk => by
    rcases List.mem_cons.1 hk with rfl | hk
    · exact mem_fpV.2 (.inr (.inr (.inr (.inl (by simp [fpD])))))
    · exact mem_fpV.2 (.inr (.inr (.inr (.inr (.inl hk)))))
  exact ⟨rfl, pv, ⟨⟨S, hd, h.st.good, hK, h.gen⟩, h.pr.keep hk (disk_off h.st.dsk h.pr), h.nr _ (hin _ (by simp))⟩, hk, hin⟩
theorem TnD.keep0 {w'' : World} {E : List Int → Prop} {O : Mo} (h : TnD Y E R B w w' fp O) (hk : Keep [] w' w'') : TnD Y E R B w w'' fp O := by
  obtain ⟨d', S, W', D, wv, pv, t1, t2, t3, t4, t5, t6, hd, hp, t7⟩ := h
  exact ⟨d', S, W', D, wv, pv, t1, t2, t3, t4, t5, t6, hd.keep hk (fun _ _ => by simp), hp.keep0 hk, t7⟩
/-- The disk crashes behind a torn commit. -/
theorem TnD.dk {E : List Int → Prop} {O : Mo} (h : TnD (Yk d KW) E R B w w' fp O) (h0 : 0 < O.left) (hd0 : d ∈ fp) (hnr : ¬ R d) (mask : Nat) :
    ∃ W, E W ∧ W.length = 112 ∧ Ret Tryz.prog 63 [.pointer (some ⟨d, 0, none⟩), .int .u64 (mask : Nat)] w' fun r w'' => r = .tuple #[] ∧ ∃ pv,
      Dk R B w'' d O.q pv O.pr (if O.left = 1 ∧ mask % 2 = 1 then W else KW) (if O.left = 1 ∧ mask % 2 = 1 then O.gen + 1 else O.gen) ∧ Keep [d] w' w'' ∧ ∀ k ∈ d :: O.q :: obs pv, k ∈ fp := by
  obtain ⟨W, he, hl, hr⟩ := h.crash h0 mask
  obtain ⟨d', S, W', D, wv, pv, _, ⟨rfl, _⟩, _, _, _, _, hd, hp, _, hf⟩ := h
  refine ⟨W, he, hl, hr.mono ?_⟩
  rintro r w'' ⟨rfl, hk, S2, h1, h2, h3, h4⟩
  refine ⟨rfl, pv, ⟨⟨S2, h1, h2, h3, h4⟩, hp.keep hk (disk_off hd hp), hnr⟩, hk, fun k hk => ?_⟩
  rcases List.mem_cons.1 hk with rfl | hk
  · exact hd0
  · exact hf k hk

/-! ### The machine of a life -/
/-- The machine at x is the life z's; its disk is at d, its printer at q. -/
def Lm (R : Nat → Prop) (B : Nat) (w : World) (d q : Nat) (L : List Is) (inp : List Int) (x : Nat) (fp : List Nat) (z : Lz) : Prop :=
  (∃ m, Vw (Yk d z.KW) R B w x fp ⟨L, inp, m, q, z.lf.m, z.lf.p, 0, false, z.gen⟩ z.W) ∧ Enc z.KW z.lf.k ∧ z.KW.length = 112
/-- It is in order. -/
def Lo (c i : Nat) (Q : List Is) (inp : List Int) (z : Lz) : Prop := Wo c Q ⟨Q ++ [haltI], inp, 0, 0, z.lf.m, z.lf.p, 0, false, z.gen⟩ i
end
section
variable {R : Nat → Prop} {B : Nat} {w w' : World} {x d q c i : Nat} {fp fp2 : List Nat} {L Q : List Is} {inp : List Int} {z : Lz}
theorem Lo.at (h : Lo c i Q inp z) (m q : Nat) (left : Int) : Wo c Q ⟨Q ++ [haltI], inp, m, q, z.lf.m, z.lf.p, left, false, z.gen⟩ i := ⟨h.prg, h.c48, h.code, h.fit, h.inp, h.out, h.read, h.gen0, h.gen, h.state⟩
theorem Lo.cells (h : Lo c i Q inp z) : z.lf.m.cells.length ≤ 48 := by
  have h1 : (z.lf.m.cells.length : Int) = c := h.fit.cells
  have h2 := h.c48
  omega
theorem Lm.lt (h : Lm R B w d q L inp x fp z) : ∀ k ∈ fp, B ≤ k ∧ k < w.heap.size ∧ ¬ R k := by
  obtain ⟨⟨m, h⟩, _⟩ := h
  exact Vx.lt h
theorem Lm.keep (h : Lm R B w d q L inp x fp z) (hk : Keep fp2 w w') (hn : ∀ k ∈ fp2, ¬ R k ∧ k ∉ fp) : Lm R B w' d q L inp x fp z := by
  obtain ⟨⟨m, h⟩, he⟩ := h
  exact ⟨⟨m, Vx.keep h hk hn⟩, he⟩
theorem Lm.keep0 (h : Lm R B w d q L inp x fp z) (hk : Keep [] w w') : Lm R B w' d q L inp x fp z := h.keep hk fun k hk => by cases hk
/-- One instruction. -/
theorem Lm.step (h : Lm R B w d q (Q ++ [haltI]) inp x fp z) (ho : Lo c i Q inp z) (hi : i ≤ 400000) (hs : z.lf.m.state = 0) :
    Ret Tryz.prog 60 [.pointer (some ⟨x, 0, none⟩)] w fun r w' => r = .bool true ∧ ∃ fp', Lm R B w' d q (Q ++ [haltI]) inp x fp' (stepZ nwL (Q ++ [haltI]) inp true z) ∧ Keep fp w w' ∧ ∀ k ∈ fp', k ∈ fp ∨ w.heap.size ≤ k := by
  obtain ⟨⟨m, h⟩, he, hl⟩ := h
  refine (mstep_w h (ho.at m q 0) hi hs fun _ => ⟨rfl, rfl⟩).mono ?_
  rintro r w' ⟨rfl, fp', h', hk, hf⟩
  refine ⟨rfl, fp', ?_, hk, hf⟩
  by_cases hc : comB (Q ++ [haltI]) z.lf.m = true
  · have e : stepZ nwL (Q ++ [haltI]) inp true z = ⟨stepL (Q ++ [haltI]) inp true z.lf, nwL (Q ++ [haltI]) inp z.lf.m z.W, nwL (Q ++ [haltI]) inp z.lf.m z.W, z.gen + 1⟩ := by
      unfold stepZ
      rw [hc]
      rfl
    have hk' : (stepL (Q ++ [haltI]) inp true z.lf).k = (stB (Q ++ [haltI]) inp z.lf.m z.lf.p).1 := by
      simp only [stepL, hc, Bool.and_self, if_pos]
    simp only [hc, if_pos] at h'
    rw [e]
    exact ⟨⟨m, h'⟩, by rw [hk']; exact Vw.enc h', by unfold nwL; exact ovr_length _ _⟩
  · have hc : comB (Q ++ [haltI]) z.lf.m = false := by simpa using hc
    have e : stepZ nwL (Q ++ [haltI]) inp true z = ⟨stepL (Q ++ [haltI]) inp true z.lf, nwL (Q ++ [haltI]) inp z.lf.m z.W, z.KW, z.gen⟩ := by
      unfold stepZ
      rw [hc]
      rfl
    have hk' : (stepL (Q ++ [haltI]) inp true z.lf).k = z.lf.k := by
      simp only [stepL, hc, Bool.and_false]
      rfl
    simp only [hc] at h'
    rw [e]
    exact ⟨⟨m, h'⟩, by rw [hk']; exact he, hl⟩
/-- It goes on no more. -/
theorem Lm.off (h : Lm R B w d q L inp x fp z) (hs : z.lf.m.state ≠ 0) : Ret Tryz.prog 60 [.pointer (some ⟨x, 0, none⟩)] w fun r w' => r = .bool false ∧ Keep [] w w' := by
  obtain ⟨⟨m, h⟩, _⟩ := h
  exact mstep_off h.m hs
theorem Lm.commits (h : Lm R B w d q (Q ++ [haltI]) inp x fp z) (ho : Lo c i Q inp z) : Ret Tryz.prog 61 [.pointer (some ⟨x, 0, none⟩)] w fun r w' => r = .bool (comB (Q ++ [haltI]) z.lf.m) ∧ Keep [] w w' := by
  obtain ⟨⟨m, h⟩, _⟩ := h
  exact mcommits_ret h.m (ho.at m q 0)
theorem Lm.crash (h : Lm R B w d q L inp x fp z) (mask : Nat) :
    Ret Tryz.prog 63 [.pointer (some ⟨d, 0, none⟩), .int .u64 (mask : Nat)] w fun r w' => r = .tuple #[] ∧ ∃ pv, Dk R B w' d q pv z.lf.p z.KW z.gen ∧ Keep [d] w w' ∧ ∀ k ∈ d :: q :: obs pv, k ∈ fp := by
  obtain ⟨⟨m, h⟩, _⟩ := h
  exact h.crash mask
/-- It is to be torn. -/
def Lt' (R : Nat → Prop) (B : Nat) (w : World) (d q : Nat) (L : List Is) (inp : List Int) (x : Nat) (fp : List Nat) (z : Lz) (left : Int) : Prop :=
  (∃ m, Vw (Yk d z.KW) R B w x fp ⟨L, inp, m, q, z.lf.m, z.lf.p, left, false, z.gen⟩ z.W) ∧ Enc z.KW z.lf.k ∧ z.KW.length = 112
theorem Lm.tear (h : Lm R B w d q L inp x fp z) (hc : z.lf.m.cells.length ≤ 48) (n : Int) : Ret Tryz.prog 62 [.pointer (some ⟨x, 0, none⟩), .int .i64 n] w fun r w' => r = .tuple #[] ∧ Lt' R B w' d q L inp x fp z n ∧ Keep fp w w' := by
  obtain ⟨⟨m, h⟩, he⟩ := h
  refine (mtear_ret h.m n).mono ?_
  rintro r w' ⟨rfl, h2, hk⟩
  exact ⟨rfl, ⟨⟨m, Vm.wds h2 h.enc h.len hc⟩, he⟩, hk⟩
/-- A torn commit, and the crash behind it. -/
theorem Lt'.tears {left : Int} (h : Lt' R B w d q (Q ++ [haltI]) inp x fp z left) (ho : Lo c i Q inp z) (hi : i ≤ 400000) (hcm : comB (Q ++ [haltI]) z.lf.m = true) (hl0 : 0 ≤ left) (hl1 : left < 9223372036854775808) (mask : Nat) {keep : Bool} (hkeep : keep = (left == 0 || (left == 1 && mask % 2 == 1))) :
    Ret Tryz.prog 60 [.pointer (some ⟨x, 0, none⟩)] w fun r w' => r = .bool true ∧ Keep fp w w' ∧ ∀ w1, Keep [] w' w1 →
      Ret Tryz.prog 63 [.pointer (some ⟨d, 0, none⟩), .int .u64 (mask : Nat)] w1 fun r w'' => r = .tuple #[] ∧ ∃ pv,
        Dk R B w'' d q pv (stepZ nwL (Q ++ [haltI]) inp keep z).lf.p (stepZ nwL (Q ++ [haltI]) inp keep z).KW (stepZ nwL (Q ++ [haltI]) inp keep z).gen ∧ Enc (stepZ nwL (Q ++ [haltI]) inp keep z).KW (stepZ nwL (Q ++ [haltI]) inp keep z).lf.k ∧ (stepZ nwL (Q ++ [haltI]) inp keep z).KW.length = 112 ∧ Keep [d] w1 w'' ∧ ∀ k ∈ d :: q :: obs pv, k ∈ fp ∨ w.heap.size ≤ k := by
  by_cases h0 : left = 0
  · subst h0
    have hk1 : keep = true := by rw [hkeep]; rfl
    rw [hk1]
    refine (Lm.step h ho hi (by
      unfold comB at hcm
      simp only [Bool.and_eq_true, decide_eq_true_eq] at hcm
      exact hcm.1)).mono ?_
    rintro r w' ⟨rfl, fp', h', hk, hf⟩
    refine ⟨rfl, hk, fun w1 hk1 => ((h'.keep0 hk1).crash mask).mono ?_⟩
    rintro r w'' ⟨rfl, pv, hd, hk2, hf2⟩
    exact ⟨rfl, pv, hd, h'.2.1, h'.2.2, hk2, fun k hk => hf k (hf2 k hk)⟩
  · obtain ⟨⟨m, h⟩, he, hl⟩ := h
    have hdf : d ∈ fp ∧ ¬ R d := by
      obtain ⟨d', s, S, W', D, wv, cv, iv, pv, rfl, h, _, rfl, _⟩ := h
      have : d' ∈ fpV x d' s m wv q pv iv := mem_fpV.2 (.inr (.inr (.inr (.inl (by simp [fpD])))))
      exact ⟨this, h.nr _ this⟩
    have hlen := h.len
    have henc := h.enc
    have hc48 := ho.cells
    refine (mtears_ret h.m (ho.at m q left) hi hcm (by show 0 < left; omega) hl1).mono ?_
    rintro r w' ⟨rfl, ht, hk⟩
    refine ⟨rfl, hk, fun w1 hk1 => ?_⟩
    obtain ⟨W2, hE, hl2, hr⟩ := (ht.keep0 hk1).dk (by show 0 < left; omega) hdf.1 hdf.2 mask
    have hst : (stB (Q ++ [haltI]) inp z.lf.m z.lf.p) = ({ z.lf.m with next := z.lf.m.next + 1 }, z.lf.p) := by
      unfold comB at hcm
      simp only [Bool.and_eq_true, decide_eq_true_eq] at hcm
      obtain ⟨hs, h15⟩ := hcm
      unfold stB
      rw [if_pos hs]
      generalize (Q ++ [haltI]).getD z.lf.m.next (0, 0, 0, 0) = y at h15 ⊢
      obtain ⟨op, A, K, N⟩ := y
      simp only at h15
      subst h15
      rfl
    have hW2 : W2 = nwL (Q ++ [haltI]) inp z.lf.m z.W := by
      unfold nwL
      rw [stB_fst _ _ _ _ z.lf.p, hst]
      exact hE.b.whole hl2 hlen hc48
    refine hr.mono ?_
    rintro r w'' ⟨rfl, pv, hd, hk2, hf2⟩
    refine ⟨rfl, pv, ?_⟩
    by_cases hc : left = 1 ∧ mask % 2 = 1
    · have hkt : keep = true := by rw [hkeep]; simp [hc.1, hc.2]
      have e : stepZ nwL (Q ++ [haltI]) inp keep z = ⟨stepL (Q ++ [haltI]) inp true z.lf, nwL (Q ++ [haltI]) inp z.lf.m z.W, nwL (Q ++ [haltI]) inp z.lf.m z.W, z.gen + 1⟩ := by
        unfold stepZ
        rw [hkt, hcm]
        rfl
      have hd' : Dk R B w'' d q pv z.lf.p W2 (z.gen + 1) := by
        have h7 : Dk R B w'' d q pv z.lf.p (if left = 1 ∧ mask % 2 = 1 then W2 else z.KW) (if left = 1 ∧ mask % 2 = 1 then z.gen + 1 else z.gen) := hd
        rwa [if_pos hc, if_pos hc] at h7
      rw [e]
      refine ⟨?_, ?_, ?_, hk2, fun k hk => .inl (hf2 k hk)⟩
      · show Dk R B w'' d q pv (stB (Q ++ [haltI]) inp z.lf.m z.lf.p).2 _ _
        rw [hst, ← hW2]
        exact hd'
      · show Enc _ (if (true && comB (Q ++ [haltI]) z.lf.m) = true then (stB (Q ++ [haltI]) inp z.lf.m z.lf.p).1 else z.lf.k)
        rw [hcm, if_pos (by rfl), hst, ← hW2]
        exact hE.toEnc
      · rw [← hW2]
        exact hl2
    · have hkt : keep = false := by
        rw [hkeep]
        by_cases h1 : left = 1
        · have : ¬ mask % 2 = 1 := fun h => hc ⟨h1, h⟩
          simp [h1, this]
        · simp [h0, h1]
      have e : stepZ nwL (Q ++ [haltI]) inp keep z = ⟨stepL (Q ++ [haltI]) inp false z.lf, nwL (Q ++ [haltI]) inp z.lf.m z.W, z.KW, z.gen⟩ := by
        unfold stepZ
        rw [hkt]
        rfl
      have hd' : Dk R B w'' d q pv z.lf.p z.KW z.gen := by
        have h7 : Dk R B w'' d q pv z.lf.p (if left = 1 ∧ mask % 2 = 1 then W2 else z.KW) (if left = 1 ∧ mask % 2 = 1 then z.gen + 1 else z.gen) := hd
        rwa [if_neg hc, if_neg hc] at h7
      rw [e]
      refine ⟨?_, he, hl, hk2, fun k hk => .inl (hf2 k hk)⟩
      show Dk R B w'' d q pv (stB (Q ++ [haltI]) inp z.lf.m z.lf.p).2 _ _
      rw [hst]
      exact hd'
/-- The new machine's memory. -/
theorem Dk.mem {pv : Value} {p : Pr} {KW : List Int} {g : Int} {s : Nat} (h : Dk R B w d q pv p KW g) (hs : StoreV w s d) :
    Ret Tryz.prog 50 [.pointer (some ⟨s, 0, none⟩)] w fun v w' => ∃ m, v = .pointer (some ⟨m, 0, none⟩) ∧ w.heap.size ≤ m ∧ MemV w' m s KW (List.replicate 14 false) ∧ Keep [] w w' := by
  obtain ⟨⟨S, h1, h2, rfl, _⟩, _⟩ := h
  exact mnew_ret hs h1
/-- The new machine. -/
theorem Dk.wake {pv cv iv : Value} {p : Pr} {g : Int} {s m : Nat} {KW : List Int} {k : Md} {W : List Int} {mm : Md} (h : Dk R B w d q pv p KW g) (hs : StoreV w s d) (hsB : B ≤ s ∧ ¬ R s) (hm : MemV w m s KW (List.replicate 14 false)) (hmB : B ≤ m ∧ ¬ R m) (he : Enc KW k) (hc : k.cells.length ≤ 48) (hl : KW.length = 112)
    (hcv : InsV R w cv L) (hiv : LsR R w iv inp) (hil : inp.length ≤ 1000000) :
    Ret Tryz.prog 49 [.pointer (some ⟨m, 0, none⟩), cv, iv, .pointer (some ⟨q, 0, none⟩)] w fun r w' => ∃ x fp, r = .pointer (some ⟨x, 0, none⟩) ∧ Lm R B w' d q L inp x fp (wakeZ ⟨⟨mm, k, p⟩, W, KW, g⟩) ∧ Keep [] w w' ∧ ∀ b ∈ fp, b ∈ d :: q :: obs pv ∨ b = s ∨ b = m ∨ w.heap.size ≤ b := by
  obtain ⟨⟨S, h1, h2, rfl, rfl⟩, hp, hnr⟩ := h
  have hst : St B w d s m S (allS S) (List.replicate 14 false) (.slice none 0 0) := fresh_st hm hs h1 h2 (Keep.refl _ _) hmB.1
  have hfm : ∀ b ∈ fpM d s m (.slice none 0 0), b = m ∨ b = s ∨ b = d := fun b hb => by
    simpa [fpM, fpD, Value.ownBlock] using hb
  refine (mnew_m (Y := Yk d (allS S)) (Z := allS S) (md := k) hst hsB.1 (fun b hb => ?_) ⟨he, fun _ _ => rfl⟩ ⟨rfl, rfl⟩ ⟨pv, rfl, hp⟩ hcv hiv hp.ro hil).mono ?_
  · rcases hfm b hb with rfl | rfl | rfl
    · exact hmB.2
    · exact hsB.2
    · exact hnr
  · rintro r w' ⟨x, fp, rfl, hv, hk, hf⟩
    refine ⟨x, fp, rfl, ⟨⟨m, Vm.wds hv he hl hc⟩, he, hl⟩, hk, fun b hb => ?_⟩
    rcases hf b hb with h3 | h3 | h3
    · rcases hfm b h3 with rfl | rfl | rfl
      · exact .inr (.inr (.inl rfl))
      · exact .inr (.inl rfl)
      · exact .inl (by simp)
    · exact .inl (List.mem_cons_of_mem _ h3)
    · exact .inr (.inr (.inr h3))
end

/-! ### What is told of it -/
theorem RowL.lsC {w : World} {B : Nat} {v : Value} {l : List Int} (h : RowL w B v l) : LsC w v l := ⟨h.lies, fun a n cap e => by
  subst e
  rcases h.2 with ⟨e, _⟩ | ⟨g, cap', cur, e, _, _, hc, _⟩
  · cases e
    exact Nat.le_refl _
  · cases e
    exact hc⟩
theorem RowL.nw {w w0 : World} {v : Value} {l : List Int} (h : RowL w w0.heap.size v l) : Nw w0 v := fun b q n c e h0 => by
  subst e
  rcases h.2 with ⟨e, _⟩ | ⟨g, cap', cur, e, hB, _⟩
  · cases e
  · cases e
    exact hB
section
variable {R : Nat → Prop} {B : Nat} {w w' : World} {x d q c i : Nat} {fp fp2 : List Nat} {L Q : List Is} {inp : List Int} {z : Lz}
theorem Lm.result (h : Lm R B w d q L inp x fp z) (hp : z.lf.p.2 = false) (hst : z.lf.m.state ≤ 1000) (hpl : z.lf.p.1.length ≤ 400000) (hc : z.lf.m.cells.length ≤ 48) {n : Nat} (hn : n = z.lf.m.cells.length) :
    Ret Tryz.prog 41 [.pointer (some ⟨x, 0, none⟩), .int .i64 (n : Nat)] w fun r w' => (∃ ov cv, r = .agg (resC (codeB z.lf.m z.lf.p) ov cv).toArray ∧ LsC w' ov z.lf.p.1 ∧ LsV w' cv z.lf.m.cells ∧ Nw w ov ∧ Nw w cv) ∧ Keep [] w w' := by
  obtain ⟨⟨m, h⟩, _⟩ := h
  refine (mresult_ret h.m hp hst hpl hc (n := n) (by show n ≤ z.lf.m.cells.length; omega)).mono ?_
  rintro r w' ⟨⟨ov, cv, rfl, h1, h2⟩, hk⟩
  have e : z.lf.m.cells.take n = z.lf.m.cells := by rw [hn, List.take_length]
  have h2 : RowL w' w.heap.size cv (z.lf.m.cells.take n) := h2
  rw [e] at h2
  have h1 : RowL w' w.heap.size ov z.lf.p.1 := h1
  exact ⟨⟨ov, cv, rfl, h1.lsC, h2.lies, h1.nw, h2.nw⟩, hk⟩
theorem Lm.ptrs (h : Lm R B w d q L inp x fp z) : ∃ m s, w.cell? ⟨x, 0, none⟩ = some (.pointer (some ⟨m, 0, none⟩)) ∧ w.cell? ⟨m, 0, none⟩ = some (.pointer (some ⟨s, 0, none⟩)) := by
  obtain ⟨⟨m, d', s, S, W', D, wv, cv, iv, pv, rfl, h, _⟩, _⟩ := h
  exact ⟨m, s, h.blk.cell rfl, h.st.mem.blk.cell rfl⟩
end
/-! ### It is in order -/
theorem InvZ.lo {vs : List VarT} {body : List ST} {inp : List Int} {z : Lz} {i : Nat} (h : InvZ vs body inp z i) (hpf : progFault vs body = 0) (hsz : szSs body ≤ 1000) (hil : inp.length ≤ 40) : Lo (sumV vs).toNat i (insSs vs body 0) inp z ∧ (z.lf.k.cells.length : Int) = (sumV vs).toNat ∧ (z.lf.m.cells.length : Int) = (sumV vs).toNat ∧ (sumV vs).toNat ≤ 48 ∧ z.lf.p.2 = false := by
  obtain ⟨⟨g0, g1⟩, g, hg, hI⟩ := h
  obtain ⟨c, hc, h48, hP⟩ := prog_prg hpf hsz
  have hcc : c = (sumV vs).toNat := by omega
  subst hcc
  obtain ⟨f1, f2, f3, f4, f5, f6, f7⟩ := InvL.fit hI hP
  exact ⟨⟨hP, h48, rfl, f1, by show inp.length ≤ 1000; omega, by show z.lf.p.1.length ≤ i; omega, by show z.lf.m.read ≤ i; omega, g0, g1, f4⟩, f6, f1.cells, h48, f7⟩
theorem InvZ.one {vs : List VarT} {body : List ST} {inp : List Int} {z : Lz} {i : Nat} {nw : List Is → List Int → Md → List Int → List Int} (h : InvZ vs body inp z i) (keep : Bool) : InvZ vs body inp (stepZ nw (insP vs body) inp keep z) (i + 1) := by
  obtain ⟨⟨g0, g1⟩, g, hg, hI⟩ := h
  obtain ⟨a1, a2⟩ := stepZ_gen (nw := nw) (L := insP vs body) (inp := inp) keep z
  obtain ⟨g', b1, b2, b3⟩ := hI.step keep
  exact ⟨⟨by omega, by omega⟩, g', by omega, by rw [stepZ_lf]; exact b3⟩
/-- One of the two, by its kind. -/
def goZ (nw : List Is → List Int → Md → List Int → List Int) (L : List Is) (inp : List Int) (kd : Int) (keep : Bool) (n : Nat) (z : Lz) : Lz × Nat := if kd = 3 then tearZ nw L inp keep n z else runZ nw L inp n z
theorem goZ_zero (nw : List Is → List Int → Md → List Int → List Int) (L : List Is) (inp : List Int) (kd : Int) (keep : Bool) (z : Lz) : goZ nw L inp kd keep 0 z = (z, 0) := by
  unfold goZ
  split <;> rfl
theorem goZ_succ (nw : List Is → List Int → Md → List Int → List Int) (L : List Is) (inp : List Int) (kd : Int) (keep : Bool) (n : Nat) (z : Lz) : goZ nw L inp kd keep (n + 1) z = if kd = 3 ∧ comB L z.lf.m = true then (wakeZ (stepZ nw L inp keep z), 1) else if z.lf.m.state = 0 then ((goZ nw L inp kd keep n (stepZ nw L inp true z)).1, (goZ nw L inp kd keep n (stepZ nw L inp true z)).2 + 1) else (z, 0) := by
  unfold goZ
  by_cases h : kd = 3
  · simp only [h, if_pos, true_and, tearZ]
  · simp only [h, if_neg, false_and, not_false_eq_true, runZ]
theorem doZ_go (nw : List Is → List Int → Md → List Int → List Int) (L : List Is) (inp : List Int) (kd : Int) (n : Nat) (keep : Bool) (z : Lz) (h : kd ≠ 2) : doZ nw L inp kd n keep z = goZ nw L inp kd keep n z := by
  unfold doZ goZ
  rw [if_neg h]
end E
end Go.Proofs.YtmplkogkphmmjafGreat

/- The landed life, as it lies in memory; wake, Now. -/
namespace Go.Proofs.YtmplkogkphmmjafGreat
set_option maxRecDepth 20000
set_option maxHeartbeats 4000000
namespace E
open Go.Proofs

abbrev tLf : Nat := 65
def lfC (mv : Value) (d q : Nat) (cv iv : Value) (n : Nat) : List Value := [mv, .pointer (some ⟨d, 0, none⟩), cv, iv, .pointer (some ⟨q, 0, none⟩), .int .i64 (n : Nat)]
/-- What of a life stays: its block's own fields, the code and the input. -/
structure Lfk (rd : List Nat) (B : Nat) (w : World) (y : Nat) (mv : Value) (d q : Nat) (cv iv : Value) (L : List Is) (ip : List Int) (n : Nat) : Prop where
  blk : Blk w y (lfC mv d q cv iv n) tLf
  code : InsV (· ∈ rd) w cv L
  inp : LsR (· ∈ rd) w iv ip
  ge : B ≤ y
  low : ∀ k ∈ rd, B ≤ k ∧ k < w.heap.size
  nrd : y ∉ rd
  il : ip.length ≤ 40
def LV (vs : List VarT) (body : List ST) (inp : List Int) (B : Nat) (w : World) (y : Nat) (fp : List Nat) (z : Lz) : Prop :=
  ∃ x d q cv iv rd fm, fp = y :: (fm ++ rd) ∧ Lfk rd B w y (.pointer (some ⟨x, 0, none⟩)) d q cv iv (insP vs body) inp (sumV vs).toNat ∧ Lm (· ∈ rd) B w d q (insP vs body) inp x fm z ∧ y ∉ fm
section
variable {rd : List Nat} {B : Nat} {w w' : World} {y d q n : Nat} {mv cv iv : Value} {L : List Is} {inp : List Int} {fp2 : List Nat}
theorem Lfk.keep (h : Lfk rd B w y mv d q cv iv L inp n) (hk : Keep fp2 w w') (hn : ∀ k ∈ fp2, k ≠ y ∧ k ∉ rd) : Lfk rd B w' y mv d q cv iv L inp n := by
  refine ⟨hk.blk h.blk fun hm => (hn y hm).1 rfl, h.code.keep hk fun c hR => ⟨(h.low c hR).2, fun hm => (hn c hm).2 hR⟩, ?_, h.ge, fun k hk' => ⟨(h.low k hk').1, Nat.lt_of_lt_of_le (h.low k hk').2 hk.size⟩, h.nrd, h.il⟩
  obtain ⟨a, cap, e, h2⟩ := h.inp
  refine ⟨a, cap, e, fun h0 => ?_⟩
  obtain ⟨b, q, e1, hR, hr⟩ := h2 h0
  exact ⟨b, q, e1, hR, range_keep hr hk (h.low b hR).2 fun hm => (hn b hm).2 hR⟩
theorem Lfk.keep0 (h : Lfk rd B w y mv d q cv iv L inp n) (hk : Keep [] w w') : Lfk rd B w' y mv d q cv iv L inp n := h.keep hk fun k hk => by cases hk
end
section
variable {vs : List VarT} {body : List ST} {inp : List Int} {B : Nat} {w w' : World} {y : Nat} {fp fp2 : List Nat} {z : Lz}
theorem LV.lt (h : LV vs body inp B w y fp z) : ∀ k ∈ fp, B ≤ k ∧ k < w.heap.size := by
  obtain ⟨x, d, q, cv, iv, rd, fm, rfl, h1, h2, h3⟩ := h
  intro k hk
  simp only [List.mem_cons, List.mem_append] at hk
  rcases hk with rfl | hk | hk
  · exact ⟨h1.ge, h1.blk.lt⟩
  · exact ⟨(h2.lt k hk).1, (h2.lt k hk).2.1⟩
  · exact h1.low k hk
theorem LV.keep (h : LV vs body inp B w y fp z) (hk : Keep fp2 w w') (hn : ∀ k ∈ fp2, k ∉ fp) : LV vs body inp B w' y fp z := by
  obtain ⟨x, d, q, cv, iv, rd, fm, rfl, h1, h2, h3⟩ := h
  refine ⟨x, d, q, cv, iv, rd, fm, rfl, h1.keep hk fun k hm => ⟨fun e => hn k hm (by simp [e]), fun e => hn k hm (by simp [e])⟩, h2.keep hk fun k hm => ⟨fun e => hn k hm (by simp [e]), fun e => hn k hm (by simp [e])⟩, h3⟩
end
/-- The new machine. -/
theorem wake_ret {vs : List VarT} {body : List ST} {inp : List Int} {rd : List Nat} {B : Nat} {w : World} {y d q n : Nat} {mv cv iv pv : Value} {p : Pr} {KW W : List Int} {g : Int} {k mm : Md} (h : Lfk rd B w y mv d q cv iv (insP vs body) inp n) (hn : n = (sumV vs).toNat) (hd : Dk (· ∈ rd) B w d q pv p KW g) (hy : y ∉ d :: q :: obs pv) (he : Enc KW k) (hc : k.cells.length ≤ 48) (hl : KW.length = 112) (hil : inp.length ≤ 1000000) :
    Ret Tryz.prog 27 [.pointer (some ⟨y, 0, none⟩)] w fun r w' => r = .tuple #[] ∧ ∃ fp', LV vs body inp B w' y fp' (wakeZ ⟨⟨mm, k, p⟩, W, KW, g⟩) ∧ Keep [y] w w' ∧ ∀ b ∈ fp', b = y ∨ b ∈ d :: q :: obs pv ∨ b ∈ rd ∨ w.heap.size ≤ b := by
  obtain ⟨ca, ccap, hcv⟩ := h.code.form
  subst hcv
  obtain ⟨ia, icap, hiv, hi2⟩ := h.inp
  subst hiv
  have hyl := h.blk.lt
  have hBw : B ≤ w.heap.size := Nat.le_trans h.ge (Nat.le_of_lt hyl)
  refine ret_of 24 Tryz.func27 rfl rfl (by simp) ?_
  refine rn_draw (fun w' => Keep [] w w') [22] hMix ?_
  have hS : Keep [] w w.drew := (Keep.refl _ _).drew
  generalize w.drew = w1 at *
  refine tk 0 ?_
  refine tk 1 ?_
  refine tk 2 ?_
  refine tk 3 ?_
  refine dr_val 4 (.pointer (some ⟨d, 0, none⟩)) rfl (by decide +kernel) rfl rfl (fun w9 hS9 => val_load1 hT rfl rfl rfl ((h.keep0 hS9).blk.cell rfl)) hS ?_
  refine tk 7 ?_
  refine tk 8 ?_
  refine tk 9 ?_
  refine dr_val 10 (.slice ca (insP vs body).length ccap) rfl (by decide +kernel) rfl rfl (fun w9 hS9 => val_load1 hT rfl rfl rfl ((h.keep0 hS9).blk.cell rfl)) hS ?_
  refine tk 11 ?_
  refine tk 12 ?_
  refine tk 13 ?_
  refine dr_val 14 (.slice ia inp.length icap) rfl (by decide +kernel) rfl rfl (fun w9 hS9 => val_load1 hT rfl rfl rfl ((h.keep0 hS9).blk.cell rfl)) hS ?_
  refine tk 15 ?_
  refine tk 16 ?_
  refine tk 17 ?_
  refine dr_val 18 (.pointer (some ⟨q, 0, none⟩)) rfl (by decide +kernel) rfl rfl (fun w9 hS9 => val_load1 hT rfl rfl rfl ((h.keep0 hS9).blk.cell rfl)) hS ?_
  refine dr_op 5 rfl (by decide +kernel) rfl rfl (opTo_call (fst := []) (cap := []) rfl rfl rfl rfl (by decide +kernel) ((open_ret d w1).mono ?_))
  rintro r w2 ⟨rfl, hs2, hk2⟩
  have hS2 := hS.tr hk2
  refine ⟨fun _ => hS2, ?_⟩
  have hsz1 := hS.size
  have hlt2 := hs2.lt
  refine dr_op 6 rfl (by decide +kernel) rfl rfl (opTo_call (fst := []) (cap := []) rfl rfl rfl rfl (by decide +kernel) (((hd.keep0 hS2).mem hs2).mono ?_))
  rintro r w3 ⟨m, rfl, hm3, hmem, hk3⟩
  have hS3 := hS2.tr hk3
  refine ⟨fun _ => hS3, ?_⟩
  have hsz2 := hk2.size
  have h3 := h.keep0 hS3
  have nr : ∀ {k : Nat}, w.heap.size ≤ k → k ∉ rd := fun {k} hk hm => by
    have := (h.low k hm).2
    omega
  refine dr_op 19 rfl (by decide +kernel) rfl rfl (opTo_call (fst := []) (cap := []) rfl rfl rfl rfl (by decide +kernel) ((Dk.wake (mm := mm) (W := W) (hd.keep0 hS3) (hk3.blk hs2 (by simp)) ⟨by omega, nr hsz1⟩ hmem ⟨by omega, nr (by omega)⟩ he hc hl h3.code h3.inp hil).mono ?_))
  rintro r w4 ⟨x, fm, rfl, hm4, hk4, hf4⟩
  have hS4 := hS3.tr hk4
  have h4 := h.keep0 hS4
  refine ⟨fun _ => hS4, ?_⟩
  have hsz3 := hk3.size
  refine tk 20 ?_
  refine tk 21 ?_
  refine dr_op 22 rfl (by decide +kernel) rfl rfl (opTo_storeN [.pointer (some ⟨x, 0, none⟩)] rfl rfl rfl rfl (by kernel_rfl) h4.blk (by simp [lfC]) (one_v rfl) ?_)
  intro w5 hs5 hk5 hb5
  refine ⟨fun h => absurd (by simp) h, ?_⟩
  refine dr_done (by decide +kernel) ?_
  have hyf : y ∉ fm := fun hm => by
    rcases hf4 y hm with h5 | h5 | h5 | h5
    · exact hy h5
    · omega
    · omega
    · omega
  have h5 : Lfk rd B w5 y (.pointer (some ⟨x, 0, none⟩)) d q (.slice ca (insP vs body).length ccap) (.slice ia inp.length icap) (insP vs body) inp n := by
    have hn' : ∀ k ∈ [y], k ∉ rd := fun k hk hm => h.nrd (by rw [← List.mem_singleton.1 hk]; exact hm)
    refine ⟨hb5, h4.code.keep hk5 fun c hR => ⟨(h4.low c hR).2, fun hm => hn' c hm hR⟩, ?_, h.ge, fun k hk' => ⟨(h4.low k hk').1, Nat.lt_of_lt_of_le (h4.low k hk').2 hk5.size⟩, h.nrd, h.il⟩
    obtain ⟨a, cap, e, h2⟩ := h4.inp
    refine ⟨a, cap, e, fun h0 => ?_⟩
    obtain ⟨b, q, e1, hR, hr⟩ := h2 h0
    exact ⟨b, q, e1, hR, range_keep hr hk5 (h4.low b hR).2 fun hm => hn' b hm hR⟩
  refine au ?_
  refine rn_end Tryz.func27 (.inr (.inl ⟨rfl, rfl⟩)) ⟨rfl, _, ⟨x, d, q, _, _, rd, fm, rfl, hn ▸ h5, hm4.keep hk5 (fun k hk => ?_), hyf⟩, hS4.of0.tr hk5, ?_⟩
  · rw [List.mem_singleton.1 hk]
    exact ⟨h.nrd, hyf⟩
  · intro b hb
    simp only [List.mem_cons, List.mem_append] at hb
    rcases hb with hb | hb | hb
    · exact .inl hb
    · rcases hf4 b hb with h6 | h6 | h6 | h6
      · exact .inr (.inl h6)
      · exact .inr (.inr (.inr (by omega)))
      · exact .inr (.inr (.inr (by omega)))
      · exact .inr (.inr (.inr (by omega)))
    · exact .inr (.inr (.inl hb))
end E
end Go.Proofs.YtmplkogkphmmjafGreat

/- The landed life: check, crash, run. -/
namespace Go.Proofs.YtmplkogkphmmjafGreat
set_option maxRecDepth 20000
set_option maxHeartbeats 4000000
namespace E
open Go.Proofs

theorem lcheck_ret (s : Sp) (w : World) : Ret Tryz.prog 34 [.agg (spC s).toArray] w fun r w' => r = .int .i64 (spFault s) ∧ Keep [] w w' := by
  obtain ⟨kd, N, K, mk⟩ := s
  refine ret_of 40 Tryz.func34 rfl rfl (by simp) ?_
  refine au ?_
  refine pl_op rfl rfl (opTo_boxN (spC (kd, N, K, mk)) rfl rfl rfl ?_)
  intro w1 x1 hx1 hs1 hk1 hb1
  have e2 : ¬ (kd = 1 ∨ kd = 2 ∨ kd = 3) → spFault (kd, N, K, mk) = 2 := fun h => by
    unfold spFault
    simp only
    rw [if_pos (by omega)]
  have e1 : (kd = 1 ∨ kd = 2 ∨ kd = 3) → (kd ≠ 2 ∧ (N < 0 ∨ 3000 < N) ∨ kd = 3 ∧ K < 0) → spFault (kd, N, K, mk) = 1 := fun h h' => by
    unfold spFault
    simp only
    rw [if_neg (by omega), if_pos h']
  have e0 : (kd = 1 ∨ kd = 2 ∨ kd = 3) → ¬ (kd ≠ 2 ∧ (N < 0 ∨ 3000 < N) ∨ kd = 3 ∧ K < 0) → spFault (kd, N, K, mk) = 0 := fun h h' => by
    unfold spFault
    simp only
    rw [if_neg (by omega), if_neg h']
  by_cases h0 : kd = 1 ∨ kd = 2 ∨ kd = 3
  rotate_left
  · refine aub ?_
    exact rn_ret Tryz.func34 (.inl ⟨_, rfl, rfl⟩) ⟨by rw [e2 h0], hk1⟩
  by_cases h2 : kd = 2
  · have hr := e0 h0 (by omega)
    refine aub ?_
    exact rn_ret Tryz.func34 (.inl ⟨_, rfl, rfl⟩) ⟨by rw [hr], hk1⟩
  by_cases hN : N < 0
  · have hr := e1 h0 (by omega)
    by_cases h1 : kd = 1
    · refine aub ?_
      exact rn_ret Tryz.func34 (.inl ⟨_, rfl, rfl⟩) ⟨by rw [hr], hk1⟩
    · have h3 : kd = 3 := by omega
      refine aub ?_
      exact rn_ret Tryz.func34 (.inl ⟨_, rfl, rfl⟩) ⟨by rw [hr], hk1⟩
  by_cases hN2 : 3000 < N
  · have hr := e1 h0 (by omega)
    by_cases h1 : kd = 1
    · refine aub ?_
      exact rn_ret Tryz.func34 (.inl ⟨_, rfl, rfl⟩) ⟨by rw [hr], hk1⟩
    · have h3 : kd = 3 := by omega
      refine aub ?_
      exact rn_ret Tryz.func34 (.inl ⟨_, rfl, rfl⟩) ⟨by rw [hr], hk1⟩
  by_cases h1 : kd = 1
  · have hr := e0 h0 (by omega)
    refine aub ?_
    exact rn_ret Tryz.func34 (.inl ⟨_, rfl, rfl⟩) ⟨by rw [hr], hk1⟩
  have h3 : kd = 3 := by omega
  by_cases hK : K < 0
  · have hr := e1 h0 (by omega)
    refine aub ?_
    exact rn_ret Tryz.func34 (.inl ⟨_, rfl, rfl⟩) ⟨by rw [hr], hk1⟩
  · have hr := e0 h0 (by omega)
    refine aub ?_
    exact rn_ret Tryz.func34 (.inl ⟨_, rfl, rfl⟩) ⟨by rw [hr], hk1⟩

section
variable {vs : List VarT} {body : List ST} {inp : List Int} {B : Nat} {w w' : World} {x y d q i : Nat} {fp fm fm' rd : List Nat} {cv iv : Value} {z z' : Lz}
theorem LV.put (h1 : Lfk rd B w y (.pointer (some ⟨x, 0, none⟩)) d q cv iv (insP vs body) inp (sumV vs).toNat) (hyf : y ∉ fm) (hm : Lm (· ∈ rd) B w d q (insP vs body) inp x fm z) (hm' : Lm (· ∈ rd) B w' d q (insP vs body) inp x fm' z') (hk : Keep fm w w') (hf : ∀ k ∈ fm', k ∈ fm ∨ w.heap.size ≤ k) : LV vs body inp B w' y (y :: (fm' ++ rd)) z' := by
  refine ⟨x, d, q, cv, iv, rd, fm', rfl, h1.keep hk fun k hk => ⟨fun e => hyf (e ▸ hk), (hm.lt k hk).2.2⟩, hm', fun h => ?_⟩
  rcases hf y h with h2 | h2
  · exact hyf h2
  · have := h1.blk.lt
    omega
/-- The disk crashes, and another machine is made; A: what is known of its blocks. -/
theorem lifeCrash_ret {A : Nat → Prop} {mv : Value} {n mk : Nat} {p : Pr} {KW W : List Int} {g : Int} {k mm : Md} (h : Lfk rd B w y mv d q cv iv (insP vs body) inp n) (hn : n = (sumV vs).toNat)
    (hcr : Ret Tryz.prog 63 [.pointer (some ⟨d, 0, none⟩), .int .u64 (mk : Nat)] w fun r w' => r = .tuple #[] ∧ ∃ pv, Dk (· ∈ rd) B w' d q pv p KW g ∧ Enc KW k ∧ KW.length = 112 ∧ Keep [d] w w' ∧ ∀ b ∈ d :: q :: obs pv, b ≠ y ∧ b ∉ rd ∧ A b)
    (hc : k.cells.length ≤ 48) (hil : inp.length ≤ 1000000) :
    Ret Tryz.prog 37 [.pointer (some ⟨y, 0, none⟩), .int .u64 (mk : Nat)] w fun r w' => r = .tuple #[] ∧ ∃ fp', LV vs body inp B w' y fp' (wakeZ ⟨⟨mm, k, p⟩, W, KW, g⟩) ∧ Keep [d, y] w w' ∧ A d ∧ ∀ b ∈ fp', b = y ∨ A b ∨ b ∈ rd ∨ w.heap.size ≤ b := by
  refine ret_of 12 Tryz.func37 rfl rfl (by simp) ?_
  refine au ?_
  refine pl_val _ rfl rfl (val_load1 hT rfl rfl rfl (h.blk.cell rfl)) ?_
  refine au ?_
  refine pl_op rfl rfl (opTo_call (fst := []) (cap := []) rfl rfl rfl rfl (by decide +kernel) (hcr.mono ?_))
  rintro r w1 ⟨rfl, pv, hd1, he, hl, hk1, hf1⟩
  have hdd := hf1 d (by simp)
  refine au ?_
  refine pl_op rfl rfl (opTo_call (fst := []) (cap := []) rfl rfl rfl rfl (by decide +kernel) ((wake_ret (mm := mm) (W := W) (h.keep hk1 fun b hb => by rw [List.mem_singleton.1 hb]; exact ⟨hdd.1, hdd.2.1⟩) hn hd1 (fun hm => (hf1 y hm).1 rfl) he hc hl hil).mono ?_))
  rintro r w2 ⟨rfl, fp', h2, hk2, hf2⟩
  have hs1 := hk1.size
  refine au ?_
  refine rn_end Tryz.func37 (.inr (.inl ⟨rfl, rfl⟩)) ⟨rfl, fp', h2, ?_, hdd.2.2, fun b hb => ?_⟩
  · exact (hk1.mono fun b hb => .inl (by rw [List.mem_singleton.1 hb]; simp)).tr (hk2.mono fun b hb => .inl (by rw [List.mem_singleton.1 hb]; simp))
  · rcases hf2 b hb with h6 | h6 | h6 | h6
    · exact .inl h6
    · exact .inr (.inl (hf1 b h6).2.2)
    · exact .inr (.inr (.inl h6))
    · exact .inr (.inr (.inr (by omega)))
theorem lifeRun_ret (n : Nat) (h : LV vs body inp B w y fp z) (hz : InvZ vs body inp z i) (hi : i ≤ 300000) (hpf : progFault vs body = 0) (hsz : szSs body ≤ 1000) (hil : inp.length ≤ 40) (hn : n ≤ 3000) :
    Ret Tryz.prog 35 [.pointer (some ⟨y, 0, none⟩), .int .i64 (n : Nat)] w fun r w' => r = .int .i64 ((runZ nwL (insP vs body) inp n z).2 : Nat) ∧ ∃ fp', LV vs body inp B w' y fp' (runZ nwL (insP vs body) inp n z).1 ∧ Keep fp w w' ∧ ∀ k ∈ fp', k ∈ fp ∨ w.heap.size ≤ k := by
  refine ret_of 19 Tryz.func35 rfl rfl (by simp) ?_
  refine au ?_
  refine rn_ind (fun t σ w' => ∃ (j : Nat) (fp' : List Nat) (z' : Lz), j ≤ n ∧ t = n - j ∧ σ = [(0, .pointer (some ⟨y, 0, none⟩)), (1, .int .i64 (n : Nat)), (6, .int .i64 (n : Nat)), (7, .int .i64 (j : Nat))] ∧ LV vs body inp B w' y fp' z' ∧ InvZ vs body inp z' (i + j) ∧
      runZ nwL (insP vs body) inp n z = ((runZ nwL (insP vs body) inp (n - j) z').1, (runZ nwL (insP vs body) inp (n - j) z').2 + j) ∧ Keep fp w w' ∧ ∀ k ∈ fp', k ∈ fp ∨ w.heap.size ≤ k)
    n _ ?_ ⟨0, fp, z, Nat.zero_le _, rfl, rfl, h, hz, rfl, Keep.refl _ _, fun k hk => .inl hk⟩ ?_
  · exact ⟨rfl, rfl, rfl, rfl, trivial⟩
  rintro t σ w3 ih ⟨j, fp', z', hj, rfl, rfl, h3, hz3, htot, hk3, hf3⟩
  have hsz3 := hk3.size
  refine au ?_
  by_cases hlt : j < n
  rotate_left
  · have hjn : j = n := by omega
    subst hjn
    refine nay ?_
    refine au ?_
    rw [Nat.sub_self] at htot
    rw [htot]
    refine rn_ret Tryz.func35 (.inl ⟨_, rfl, rfl⟩) ⟨by simp [runZ], fp', h3, hk3, hf3⟩
  refine ye ?_
  obtain ⟨x, d, q, cv, iv, rd, fm, hfp, l1, l2, l3⟩ := h3
  obtain ⟨hlo3, hkc3, hmc3, _, _⟩ := hz3.lo hpf hsz hil
  obtain ⟨r, hr⟩ : ∃ r, n - j = r + 1 := ⟨n - j - 1, by omega⟩
  rw [hr] at htot
  simp only [runZ] at htot
  refine au ?_
  refine pl_val _ rfl rfl (val_load1 hT rfl rfl rfl (l1.blk.cell rfl)) ?_
  by_cases hs0 : z'.lf.m.state = 0
  rotate_left
  · rw [if_neg hs0] at htot
    refine pl_op rfl rfl (opTo_call (fst := []) (cap := []) rfl rfl rfl rfl (by decide +kernel) ((l2.off hs0).mono ?_))
    rintro r w5 ⟨rfl, hk5⟩
    refine au ?_
    rw [htot]
    refine rn_ret Tryz.func35 (.inl ⟨_, rfl, rfl⟩) ⟨by simp, _, LV.put l1 l3 l2 (l2.keep0 hk5) hk5.of0 (fun k hk => .inl hk), hk3.tr0 hk5, fun k hk => hf3 k (by rw [hfp]; exact hk)⟩
  rw [if_pos hs0] at htot
  refine pl_op rfl rfl (opTo_call (fst := []) (cap := []) rfl rfl rfl rfl (by decide +kernel) ((l2.step hlo3 (by omega) hs0).mono ?_))
  rintro r w5 ⟨rfl, fm', hm5, hk5, hf5⟩
  have hv5 := LV.put l1 l3 l2 hm5 hk5 hf5
  have hz5 := hz3.one (nw := nwL) true
  have hk35 : Keep fp' w3 w5 := hk5.mono fun k hk => .inl (by rw [hfp]; simp [hk])
  refine au ?_
  refine pl_num (((j + 1 : Nat) : Int)) rfl rfl rfl rfl rfl (by simp only [ariP]; omega) ?_
  refine au ?_
  refine rn_sub ?_ (ih (n - (j + 1)) [(0, .pointer (some ⟨y, 0, none⟩)), (1, .int .i64 (n : Nat)), (6, .int .i64 (n : Nat)), (7, .int .i64 ((j + 1 : Nat) : Int))] w5 (by omega) ⟨j + 1, _, _, by omega, rfl, rfl, hv5, hz5, ?_, hk3.trans hk35 (fun k hm => hf3 k hm), ?_⟩)
  · exact ⟨rfl, rfl, rfl, rfl, trivial⟩
  · rw [htot, show n - (j + 1) = r by omega]
    simp only [Nat.add_assoc, Nat.add_comm 1 j]
    rfl
  · intro k hk
    simp only [List.mem_cons, List.mem_append] at hk
    have old : k ∈ fp' → k ∈ fp ∨ w.heap.size ≤ k := hf3 k
    rcases hk with hk | hk | hk
    · exact old (by rw [hfp, hk]; simp)
    · rcases hf5 k hk with h6 | h6
      · exact old (by rw [hfp]; simp [h6])
      · exact .inr (by omega)
    · exact old (by rw [hfp]; simp [hk])
end
end E
end Go.Proofs.YtmplkogkphmmjafGreat

/- The landed life: tear, Do. -/
namespace Go.Proofs.YtmplkogkphmmjafGreat
set_option maxRecDepth 20000
set_option maxHeartbeats 4000000
namespace E
open Go.Proofs

section
variable {vs : List VarT} {body : List ST} {inp : List Int} {B : Nat} {w w' : World} {x y d q i : Nat} {fp fm fm' rd : List Nat} {cv iv : Value} {z z' : Lz}
theorem lifeTear_ret {kd K : Int} {n mk : Nat} {kp : Bool} (h : LV vs body inp B w y fp z) (hz : InvZ vs body inp z i) (hi : i ≤ 300000) (hpf : progFault vs body = 0) (hsz : szSs body ≤ 1000) (hil : inp.length ≤ 40) (hn : n ≤ 3000) (hK0 : 0 ≤ K) (hK : K < 9223372036854775808) (hkp : kp = spKeep (kd, (n : Int), K, mk)) :
    Ret Tryz.prog 36 [.pointer (some ⟨y, 0, none⟩), .agg (spC (kd, (n : Int), K, mk)).toArray] w fun r w' => r = .int .i64 ((tearZ nwL (insP vs body) inp kp n z).2 : Nat) ∧ ∃ fp', LV vs body inp B w' y fp' (tearZ nwL (insP vs body) inp kp n z).1 ∧ Keep fp w w' ∧ ∀ k ∈ fp', k ∈ fp ∨ w.heap.size ≤ k := by
  refine ret_of 44 Tryz.func36 rfl rfl (by simp) ?_
  refine au ?_
  refine pl_op rfl rfl (opTo_boxN (spC (kd, (n : Int), K, mk)) rfl rfl rfl ?_)
  intro w2 x1 hx1 hs2 hk02 hb2
  have h2 := h.keep hk02 (fun k hk => by cases hk)
  have hx1f : x1 ∉ fp := fun hm => by
    have := (h.lt x1 hm).2
    omega
  have hsz02 := hk02.size
  have hx2 := hb2.lt
  refine au ?_
  refine pl_val _ rfl rfl (val_load1 hT rfl rfl rfl (hb2.cell rfl)) ?_
  refine au ?_
  refine rn_ind (fun t σ w' => ∃ (j : Nat) (fp' : List Nat) (z' : Lz), j ≤ n ∧ t = n - j ∧ σ = [(0, .pointer (some ⟨y, 0, none⟩)), (3, .pointer (some ⟨x1, 0, none⟩)), (7, .int .i64 (n : Nat)), (8, .int .i64 (j : Nat))] ∧ LV vs body inp B w' y fp' z' ∧ InvZ vs body inp z' (i + j) ∧
      tearZ nwL (insP vs body) inp kp n z = ((tearZ nwL (insP vs body) inp kp (n - j) z').1, (tearZ nwL (insP vs body) inp kp (n - j) z').2 + j) ∧ Keep fp w2 w' ∧ ∀ k ∈ fp', k ∈ fp ∨ w2.heap.size ≤ k)
    n _ ?_ ⟨0, fp, z, Nat.zero_le _, rfl, rfl, h2, hz, rfl, Keep.refl _ _, fun k hk => .inl hk⟩ ?_
  · exact ⟨rfl, rfl, rfl, rfl, trivial⟩
  rintro t σ w3 ih ⟨j, fp', z', hj, rfl, rfl, h3, hz3, htot, hk3, hf3⟩
  have hb3 := hk3.blk hb2 hx1f
  have hsz3 := hk3.size
  have done : ∀ {w' : World} {fp2 : List Nat} {z2 : Lz}, LV vs body inp B w' y fp2 z2 → Keep fp' w3 w' → (∀ k ∈ fp2, k ∈ fp' ∨ w3.heap.size ≤ k) → ∃ fp', LV vs body inp B w' y fp' z2 ∧ Keep fp w w' ∧ ∀ k ∈ fp', k ∈ fp ∨ w.heap.size ≤ k := fun {w' fp2 z2} hl hk hf => by
    refine ⟨fp2, hl, hk02.of0.tr (hk3.trans hk fun k hm => hf3 k hm), fun k hk => ?_⟩
    rcases hf k hk with h5 | h5
    · rcases hf3 k h5 with h6 | h6
      · exact .inl h6
      · exact .inr (by omega)
    · exact .inr (by omega)
  refine au ?_
  by_cases hlt : j < n
  rotate_left
  · have hjn : j = n := by omega
    subst hjn
    refine nay ?_
    refine au ?_
    refine pl_val _ rfl rfl (val_load1 hT rfl rfl rfl (hb3.cell rfl)) ?_
    refine au ?_
    rw [Nat.sub_self] at htot
    rw [htot]
    refine rn_ret Tryz.func36 (.inl ⟨_, rfl, rfl⟩) ⟨by simp [tearZ], done h3 (Keep.refl _ _) fun k hk => .inl hk⟩
  refine ye ?_
  obtain ⟨x, d, q, cv, iv, rd, fm, hfp, l1, l2, l3⟩ := h3
  obtain ⟨hlo3, hkc3, hmc3, _, _⟩ := hz3.lo hpf hsz hil
  obtain ⟨r, hr⟩ : ∃ r, n - j = r + 1 := ⟨n - j - 1, by omega⟩
  rw [hr] at htot
  simp only [tearZ] at htot
  have inf : ∀ k ∈ fm, k ∈ fp' := fun k hk => by rw [hfp]; simp [hk]
  refine au ?_
  refine pl_val _ rfl rfl (val_load1 hT rfl rfl rfl (l1.blk.cell rfl)) ?_
  refine pl_op rfl rfl (opTo_call (fst := []) (cap := []) rfl rfl rfl rfl (by decide +kernel) ((l2.commits hlo3).mono ?_))
  rintro r' w4 ⟨rfl, hk4⟩
  have s4 := hk4.size
  by_cases hcm : comB (insP vs body) z'.lf.m = true
  · rw [show comB (insSs vs body 0 ++ [haltI]) z'.lf.m = true from hcm]
    rw [if_pos hcm] at htot
    refine au ?_
    have l1' := l1.keep0 hk4
    have l2' := l2.keep0 hk4
    have hb4 := hk4.blk hb3 (by simp)
    refine rn_draw (fun w' => Keep [] w4 w') [6] hMix ?_
    have hS : Keep [] w4 w4.drew := (Keep.refl _ _).drew
    generalize w4.drew = w5 at *
    refine tk 0 ?_
    refine tk 1 ?_
    refine tk 2 ?_
    refine dr_val 3 (.pointer (some ⟨x, 0, none⟩)) rfl (by decide +kernel) rfl rfl (fun w9 hS9 => val_load1 hT rfl rfl rfl ((l1'.keep0 hS9).blk.cell rfl)) hS ?_
    refine tk 4 ?_
    refine dr_val 5 (.int .i64 K) rfl (by decide +kernel) rfl rfl (fun w9 hS9 => val_load1 hT rfl rfl rfl ((hS9.blk hb4 (by simp)).cell rfl)) hS ?_
    have l1 := l1'.keep0 hS
    have l2 := l2'.keep0 hS
    have hb5 := hS.blk hb4 (by simp)
    refine dr_op 6 rfl (by decide +kernel) rfl rfl (opTo_call (fst := []) (cap := []) rfl rfl rfl rfl (by decide +kernel) ((l2.tear hlo3.cells K).mono ?_))
    rintro r' w6 ⟨rfl, lt6, hk6⟩
    refine ⟨fun h => absurd (by simp) h, ?_⟩
    refine dr_done (by decide +kernel) ?_
    have fmn : ∀ k ∈ fm, k ≠ y ∧ k ∉ rd := fun k hk => ⟨fun e => l3 (e ▸ hk), (l2.lt k hk).2.2⟩
    have fmx : x1 ∉ fm := fun hm => by
      rcases hf3 x1 (inf x1 hm) with h6 | h6
      · exact hx1f h6
      · omega
    have l6 := l1.keep hk6 fmn
    have hb6 := hk6.blk hb5 fmx
    refine au ?_
    refine pl_val _ rfl rfl (val_load1 hT rfl rfl rfl (l6.blk.cell rfl)) ?_
    refine pl_op rfl rfl (opTo_call (fst := []) (cap := []) rfl rfl rfl rfl (by decide +kernel) ((lt6.tears hlo3 (by omega) hcm hK0 hK mk (keep := kp) (by rw [hkp]; rfl)).mono ?_))
    rintro r' w7 ⟨rfl, hk7, hcr⟩
    have l7 := l6.keep hk7 fmn
    have hb7 := hk7.blk hb6 fmx
    have s5 := hS.size
    have s6 := hk6.size
    have s7 := hk7.size
    have hyl := l6.blk.lt
    refine au ?_
    refine pl_val _ rfl rfl (val_load1 hT rfl rfl rfl (hb7.cell rfl)) ?_
    have hz9 := hz3.one (nw := nwL) kp
    obtain ⟨_, hkc9, _, h48', _⟩ := hz9.lo hpf hsz hil
    obtain ⟨zz, hzz⟩ : ∃ zz, zz = stepZ nwL (insP vs body) inp kp z' := ⟨_, rfl⟩
    have hcr' := hcr w7 (Keep.refl _ _)
    rw [show stepZ nwL (insSs vs body 0 ++ [haltI]) inp kp z' = zz from hzz.symm] at hcr'
    rw [← hzz] at hkc9 htot
    refine pl_op rfl rfl (opTo_call (fst := []) (cap := []) rfl rfl rfl rfl (by decide +kernel) ((lifeCrash_ret (A := fun b => b ∈ fm ∨ w6.heap.size ≤ b) (mm := zz.lf.m) (W := zz.W) (k := zz.lf.k) (p := zz.lf.p) (KW := zz.KW) (g := zz.gen) l7 rfl (hcr'.mono ?_) (by
      have : (zz.lf.k.cells.length : Int) ≤ 48 := by omega
      exact Int.ofNat_le.1 this) (by omega)).mono ?_))
    · rintro r' w9 ⟨rfl, pv, hd9, he9, hl9, hk9, hf9⟩
      refine ⟨rfl, pv, hd9, he9, hl9, hk9, fun b hb => ?_⟩
      rcases hf9 b hb with h6 | h6
      · exact ⟨(fmn b h6).1, (fmn b h6).2, .inl h6⟩
      · exact ⟨by omega, fun hm => by have := (l6.low b hm).2; omega, .inr h6⟩
    rintro r' w10 ⟨rfl, fp10, h10, hk10, hAd, hf10⟩
    refine au ?_
    refine pl_num (((j + 1 : Nat) : Int)) rfl rfl rfl rfl rfl (by simp only [ariP]; omega) ?_
    refine au ?_
    rw [htot]
    refine rn_ret Tryz.func36 (.inl ⟨_, rfl, rfl⟩) ⟨by simp [Nat.add_comm], done h10 ?_ ?_⟩
    · refine (((hk4.tr hS).of0.tr (hk6.mono fun k hk => .inl (inf k hk))).tr (hk7.mono fun k hk => .inl (inf k hk))).trans hk10 fun k hk => ?_
      simp only [List.mem_cons, List.not_mem_nil, or_false] at hk
      rcases hk with hk | hk
      · rw [hk]
        rcases hAd with h7 | h7
        · exact .inl (inf _ h7)
        · exact .inr (by omega)
      · exact .inl (by rw [hfp, hk]; simp)
    · intro k hk
      rcases hf10 k hk with h6 | h6 | h6 | h6
      · exact .inl (by rw [hfp, h6]; simp)
      · rcases h6 with h7 | h7
        · exact .inl (inf k h7)
        · exact .inr (by omega)
      · exact .inl (by rw [hfp]; simp [h6])
      · exact .inr (by omega)
  have hcm' : comB (insP vs body) z'.lf.m = false := by simpa using hcm
  rw [show comB (insSs vs body 0 ++ [haltI]) z'.lf.m = false from hcm']
  rw [if_neg hcm] at htot
  have l1' := l1.keep0 hk4
  have l2' := l2.keep0 hk4
  refine au ?_
  refine pl_val _ rfl rfl (val_load1 hT rfl rfl rfl (l1'.blk.cell rfl)) ?_
  by_cases hs0 : z'.lf.m.state = 0
  rotate_left
  · rw [if_neg hs0] at htot
    refine pl_op rfl rfl (opTo_call (fst := []) (cap := []) rfl rfl rfl rfl (by decide +kernel) ((l2'.off hs0).mono ?_))
    rintro r' w5 ⟨rfl, hk5⟩
    refine au ?_
    rw [htot]
    refine rn_ret Tryz.func36 (.inl ⟨_, rfl, rfl⟩) ⟨by simp, done (LV.put l1' l3 l2' (l2'.keep0 hk5) hk5.of0 fun k hk => .inl hk) (hk4.tr hk5).of0 fun k hk => .inl (by rw [hfp]; exact hk)⟩
  rw [if_pos hs0] at htot
  refine pl_op rfl rfl (opTo_call (fst := []) (cap := []) rfl rfl rfl rfl (by decide +kernel) ((l2'.step hlo3 (by omega) hs0).mono ?_))
  rintro r' w5 ⟨rfl, fm', hm5, hk5, hf5⟩
  have hv5 := LV.put l1' l3 l2' hm5 hk5 hf5
  have hz5 := hz3.one (nw := nwL) true
  have hk35 : Keep fp' w3 w5 := hk4.of0.tr (hk5.mono fun k hk => .inl (inf k hk))
  refine au ?_
  refine pl_num (((j + 1 : Nat) : Int)) rfl rfl rfl rfl rfl (by simp only [ariP]; omega) ?_
  refine au ?_
  refine rn_sub ?_ (ih (n - (j + 1)) [(0, .pointer (some ⟨y, 0, none⟩)), (3, .pointer (some ⟨x1, 0, none⟩)), (7, .int .i64 (n : Nat)), (8, .int .i64 ((j + 1 : Nat) : Int))] w5 (by omega) ⟨j + 1, _, _, by omega, rfl, rfl, hv5, hz5, ?_, hk3.trans hk35 (fun k hm => hf3 k hm), ?_⟩)
  · exact ⟨rfl, rfl, rfl, rfl, trivial⟩
  · rw [htot, show n - (j + 1) = r by omega]
    simp only [Nat.add_assoc, Nat.add_comm 1 j]
    rfl
  · intro k hk
    simp only [List.mem_cons, List.mem_append] at hk
    have old : k ∈ fp' → k ∈ fp ∨ w2.heap.size ≤ k := hf3 k
    rcases hk with hk | hk | hk
    · exact old (by rw [hfp, hk]; simp)
    · rcases hf5 k hk with h6 | h6
      · exact old (inf k h6)
      · exact .inr (by omega)
    · exact old (by rw [hfp]; simp [hk])
theorem does_ret (s : Sp) (h : LV vs body inp B w y fp z) (hz : InvZ vs body inp z i) (hi : i ≤ 300000) (hpf : progFault vs body = 0) (hsz : szSs body ≤ 1000) (hil : inp.length ≤ 40) (hK : s.2.2.1 < 9223372036854775808) :
    Ret Tryz.prog 13 [.pointer (some ⟨y, 0, none⟩), .agg (spC s).toArray] w fun r w' => r = .tuple #[.int .i64 ((doZS nwL (insP vs body) inp s z).2 : Nat), .int .i64 (spFault s)] ∧ ∃ fp', LV vs body inp B w' y fp' (doZS nwL (insP vs body) inp s z).1 ∧ Keep fp w w' ∧ ∀ k ∈ fp', k ∈ fp ∨ w.heap.size ≤ k := by
  obtain ⟨kd, N, K, mk⟩ := s
  simp only at hK
  refine ret_of 29 Tryz.func13 rfl rfl (by simp) ?_
  refine au ?_
  refine pl_op rfl rfl (opTo_boxN (spC (kd, N, K, mk)) rfl rfl rfl ?_)
  intro w1 x1 hx1 hs1 hk1 hb1
  refine au ?_
  refine pl_val (.agg (spC (kd, N, K, mk)).toArray) rfl rfl (val_load (spC (kd, N, K, mk)) hT rfl rfl rfl (hb1.range (by rfl))) ?_
  refine pl_op rfl rfl (opTo_call (fst := []) (cap := []) rfl rfl rfl rfl (by decide +kernel) ((lcheck_ret (kd, N, K, mk) w1).mono ?_))
  rintro r w2 ⟨rfl, hk2⟩
  have hk02 := hk1.tr hk2
  have hb2 := hk2.blk hb1 (by simp)
  have h2 := h.keep hk02 (fun k hk => by cases hk)
  have hsz02 := hk02.size
  refine au ?_
  by_cases hf : spFault (kd, N, K, mk) = 0
  rotate_left
  · refine ye ?_
    refine au ?_
    unfold doZS
    rw [if_neg hf]
    exact rn_ret Tryz.func13 (.inr (.inr (.inr (.inr ⟨_, _, _, _, rfl, rfl, rfl, rfl⟩)))) ⟨rfl, fp, h2, hk02.of0, fun k hk => .inl hk⟩
  refine nay ?_
  refine au ?_
  refine pl_val _ rfl rfl (val_load1 hT rfl rfl rfl (hb2.cell rfl)) ?_
  have hdo : doZS nwL (insP vs body) inp (kd, N, K, mk) z = doZ nwL (insP vs body) inp kd N.toNat (spKeep (kd, N, K, mk)) z := by
    unfold doZS
    rw [if_pos hf]
  rw [hdo, hf]
  have hrange : (kd = 1 ∨ kd = 2 ∨ kd = 3) ∧ (kd ≠ 2 → 0 ≤ N ∧ N ≤ 3000) ∧ (kd = 3 → 0 ≤ K) := by
    unfold spFault at hf
    simp only at hf
    split at hf
    · omega
    · split at hf
      · omega
      · refine ⟨by omega, fun _ => by omega, fun _ => by omega⟩
  obtain ⟨hlo, hkc, hmc, h48, hp0⟩ := hz.lo hpf hsz hil
  have late : ∀ {fp' : List Nat}, (∀ k ∈ fp', k ∈ fp ∨ w2.heap.size ≤ k) → ∀ k ∈ fp', k ∈ fp ∨ w.heap.size ≤ k := fun {fp'} h k hk => by
    rcases h k hk with h6 | h6
    · exact .inl h6
    · exact .inr (by omega)
  refine au ?_
  by_cases h1 : kd = 1
  · obtain ⟨n, rfl⟩ : ∃ n : Nat, N = (n : Int) := ⟨N.toNat, by have := (hrange.2.1 (by omega)).1; omega⟩
    have hn3 := (hrange.2.1 (by omega)).2
    refine ye ?_
    refine au ?_
    refine pl_val _ rfl rfl (val_load1 hT rfl rfl rfl (hb2.cell rfl)) ?_
    refine pl_op rfl rfl (opTo_call (fst := []) (cap := []) rfl rfl rfl rfl (by decide +kernel) ((lifeRun_ret n h2 hz hi hpf hsz hil (by omega)).mono ?_))
    rintro r w3 ⟨rfl, fp', h3, hk3, hf3⟩
    refine au ?_
    have e : doZ nwL (insP vs body) inp kd ((n : Int)).toNat (spKeep (kd, (n : Int), K, mk)) z = runZ nwL (insP vs body) inp n z := by
      unfold doZ
      rw [if_neg (by omega), if_neg (by omega), Int.toNat_natCast]
    rw [e]
    exact rn_ret Tryz.func13 (.inr (.inr (.inr (.inr ⟨_, _, _, _, rfl, rfl, rfl, rfl⟩)))) ⟨rfl, fp', h3, hk02.of0.tr hk3, late hf3⟩
  refine nay ?_
  refine au ?_
  by_cases h3 : kd = 3
  · obtain ⟨n, rfl⟩ : ∃ n : Nat, N = (n : Int) := ⟨N.toNat, by have := (hrange.2.1 (by omega)).1; omega⟩
    have hn3 := (hrange.2.1 (by omega)).2
    refine ye ?_
    refine au ?_
    refine pl_val (.agg (spC (kd, (n : Int), K, mk)).toArray) rfl rfl (val_load (spC (kd, (n : Int), K, mk)) hT rfl rfl rfl (hb2.range (by rfl))) ?_
    refine pl_op rfl rfl (opTo_call (fst := []) (cap := []) rfl rfl rfl rfl (by decide +kernel) ((lifeTear_ret (kp := spKeep (kd, (n : Int), K, mk)) h2 hz hi hpf hsz hil (by omega) (hrange.2.2 h3) hK rfl).mono ?_))
    rintro r w3 ⟨rfl, fp', h3', hk3, hf3⟩
    refine au ?_
    have e : doZ nwL (insP vs body) inp kd ((n : Int)).toNat (spKeep (kd, (n : Int), K, mk)) z = tearZ nwL (insP vs body) inp (spKeep (kd, (n : Int), K, mk)) n z := by
      unfold doZ
      rw [if_neg (by omega), if_pos h3, Int.toNat_natCast]
    rw [e]
    exact rn_ret Tryz.func13 (.inr (.inr (.inr (.inr ⟨_, _, _, _, rfl, rfl, rfl, rfl⟩)))) ⟨rfl, fp', h3', hk02.of0.tr hk3, late hf3⟩
  refine nay ?_
  refine au ?_
  refine pl_val _ rfl rfl (val_load1 hT rfl rfl rfl (hb2.cell rfl)) ?_
  obtain ⟨x, d, q, cv, iv, rd, fm, rfl, l1, l2, l3⟩ := h2
  refine pl_op rfl rfl (opTo_call (fst := []) (cap := []) rfl rfl rfl rfl (by decide +kernel) ((lifeCrash_ret (A := fun b => b ∈ fm) (mm := z.lf.m) (W := z.W) (k := z.lf.k) (p := z.lf.p) (KW := z.KW) (g := z.gen) l1 rfl ((l2.crash mk).mono ?_) (by omega) (by omega)).mono ?_))
  · rintro r w4 ⟨rfl, pv, hd4, hk4, hf4⟩
    exact ⟨rfl, pv, hd4, l2.2.1, l2.2.2, hk4, fun b hb => ⟨fun e => l3 (e ▸ hf4 b hb), (l2.lt b (hf4 b hb)).2.2, hf4 b hb⟩⟩
  rintro r w5 ⟨rfl, fp', h5, hk5, hAd, hf5⟩
  refine au ?_
  have e : doZ nwL (insP vs body) inp kd N.toNat (spKeep (kd, N, K, mk)) z = (wakeZ z, 0) := by
    unfold doZ
    rw [if_pos (by omega)]
  rw [e]
  refine rn_ret Tryz.func13 (.inr (.inr (.inr (.inr ⟨_, _, _, _, rfl, rfl, rfl, rfl⟩)))) ⟨rfl, fp', h5, ?_, ?_⟩
  · refine hk02.of0.tr (hk5.mono fun k hk => .inl ?_)
    simp only [List.mem_cons, List.not_mem_nil, or_false] at hk
    rcases hk with hk | hk
    · rw [hk]; simp [hAd]
    · rw [hk]; simp
  · intro b hb
    rcases hf5 b hb with h6 | h6 | h6 | h6
    · exact .inl (by simp [h6])
    · exact .inl (by simp [h6])
    · exact .inl (by simp [h6])
    · exact .inr (by omega)
end
end E
end Go.Proofs.YtmplkogkphmmjafGreat

/- The landed maker: how it lies in memory; contracts of next, add, lead, cell, size. -/
namespace Go.Proofs.YtmplkogkphmmjafGreat
set_option maxRecDepth 20000
set_option maxHeartbeats 4000000
namespace E
open Go.Proofs

abbrev tMk : Nat := 103
abbrev tIn : Nat := 107
theorem neMI : tMk ≠ tIn := by decide

/-- What making leaves alone: all blocks but those of instructions and of makers. -/
structure Mf (w w' : World) : Prop where
  size : w.heap.size ≤ w'.heap.size
  blk : ∀ {c : Nat} {L : List Value} {e : TypeId}, Blk w c L e → e ≠ tMk → e ≠ tIn → Blk w' c L e
theorem Mf.refl (w : World) : Mf w w := ⟨Nat.le_refl _, fun h _ _ => h⟩
theorem Mf.tr {w w' w'' : World} (h : Mf w w') (h' : Mf w' w'') : Mf w w'' := ⟨Nat.le_trans h.size h'.size, fun hb h1 h2 => h'.blk (h.blk hb h1 h2) h1 h2⟩
theorem Mf.of0 {w w' : World} (h : Keep [] w w') : Mf w w' := ⟨h.size, fun hb _ _ => h.blk hb (by simp)⟩
theorem Mf.of {w w' : World} {fp : List Nat} (h : Keep fp w w') (hf : ∀ k ∈ fp, ∃ L e, Blk w k L e ∧ (e = tMk ∨ e = tIn)) : Mf w w' :=
  ⟨h.size, fun hb h1 h2 => h.blk hb fun hm => by
    obtain ⟨L, e, hb', he⟩ := hf _ hm
    rcases he with he | he
    · exact Blk.ne hb hb' (fun h => h1 (h.trans he)) rfl
    · exact Blk.ne hb hb' (fun h => h2 (h.trans he)) rfl⟩

/-- The maker at b, over a world w0 in which it was not yet: the instructions l so far; its program. -/
structure Mk (w0 w : World) (b : Nat) (v : Value) (l : List Is) (vv bv : Value) : Prop where
  kp : Keep [] w0 w
  ge : w0.heap.size ≤ b
  bk : Blk w b [v, vv, bv] tMk
  row : RowI tIn w w0.heap.size v l
def Mt (w0 w : World) (b : Nat) (l : List Is) (vv bv : Value) : Prop := ∃ v, Mk w0 w b v l vv bv

section
variable {w0 w w1 w2 : World} {b B : Nat} {v v' vv bv : Value} {l l' : List Is}
theorem mrow_blk (h : RowI tIn w B v l) : ∀ k ∈ v.ownBlock.toList, ∃ X, Blk w k X tIn := by
  intro k hk
  rcases h.2 with ⟨rfl, _⟩ | ⟨g, cap, cur, rfl, _, hg, _⟩
  · simp [Value.ownBlock] at hk
  · have : k = g := by simpa [Value.ownBlock] using hk
    subst this
    exact ⟨cur, hg⟩
theorem mrow_ne (h : RowI tIn w B v l) {X : List Value} (hb : Blk w b X tMk) : ∀ k ∈ v.ownBlock.toList, k ≠ b := by
  intro k hk
  obtain ⟨Y, hY⟩ := mrow_blk h k hk
  exact (Blk.ne hb hY neMI).symm
theorem Mk.keep0 (h : Mk w0 w b v l vv bv) (hk : Keep [] w w1) : Mk w0 w1 b v l vv bv := ⟨h.kp.tr hk, h.ge, hk.blk h.bk (by simp), h.row.keep0 hk⟩
theorem Mt.keep0 (h : Mt w0 w b l vv bv) (hk : Keep [] w w1) : Mt w0 w1 b l vv bv := let ⟨v, h⟩ := h; ⟨v, h.keep0 hk⟩
theorem Mt.kp (h : Mt w0 w b l vv bv) : Keep [] w0 w := let ⟨_, h⟩ := h; h.kp
theorem Mk.bkA (h : Mk w0 w b v l vv bv) (hk : Keep v.ownBlock.toList w w1) : Blk w1 b [v, vv, bv] tMk := hk.blk h.bk fun hm => mrow_ne h.row h.bk b hm rfl
theorem Mk.app (h : Mk w0 w b v l vv bv) (hk : Keep v.ownBlock.toList w w1) (hrow : RowI tIn w1 w0.heap.size v' l') (hk2 : Keep [b] w1 w2) (hb : Blk w2 b [v', vv, bv] tMk) : Mk w0 w2 b v' l' vv bv ∧ Mf w w2 := by
  have hb1 := h.bkA hk
  refine ⟨⟨(h.kp.trans hk fun k hm => .inr (h.row.own k hm).1).trB hk2 h.ge, h.ge, hb, ?_⟩, ?_⟩
  · exact Own.keep hrow hk2 fun k hv hm => mrow_ne hrow hb1 k (by simpa using hv) (List.mem_singleton.1 hm)
  · refine Mf.tr (Mf.of hk fun k hm => ?_) (Mf.of hk2 fun k hm => ⟨[v, vv, bv], tMk, by rw [List.mem_singleton.1 hm]; exact hb1, .inl rfl⟩)
    obtain ⟨X, hX⟩ := mrow_blk h.row k hm
    exact ⟨X, tIn, hX, .inr rfl⟩
end

theorem built_mi03 (a n : Int) : Tryz.prog.built tIn [(0, .int .i64 a), (3, .int .i64 n)] = some (iC (a, 0, 0, n)).toArray := by kernel_rfl
theorem built_mi0 (a : Int) : Tryz.prog.built tIn [(0, .int .i64 a)] = some (iC (a, 0, 0, 0)).toArray := by kernel_rfl
theorem built_mi1 (a b : Int) : Tryz.prog.built tIn [(0, .int .i64 a), (1, .int .i64 b)] = some (iC (a, b, 0, 0)).toArray := by kernel_rfl
theorem built_mi2 (a b c : Int) : Tryz.prog.built tIn [(0, .int .i64 a), (1, .int .i64 b), (2, .int .i64 c)] = some (iC (a, b, c, 0)).toArray := by kernel_rfl
theorem zero_mi : ((Tryz.prog.info? tIn).bind (·.zero)).map (·.cells) = some (iC (0, 0, 0, 0)).toArray := by kernel_rfl
theorem size_mi : sizeOk Tryz.prog tIn 4 = true := by kernel_rfl
theorem size_mn : sizeOk Tryz.prog 3 1 = true := by kernel_rfl
theorem size_ms : sizeOk Tryz.prog 54 1 = true := by kernel_rfl
theorem slice_mi (x : Is) : sliceCells Tryz.prog 54 1 [(0, .agg (iC x).toArray)] = some (tIn, (iC x).toArray) := by
  obtain ⟨a, b, c, d⟩ := x
  kernel_rfl
theorem app_mi : appOk Tryz.prog 54 tIn 4 32 = true := by decide +kernel
theorem iC_mone (x : Is) : ∀ u ∈ iC x, u.oneCell' = true := by
  intro u hu
  simp only [iC, List.mem_cons, List.not_mem_nil, or_false] at hu
  rcases hu with rfl | rfl | rfl | rfl <;> rfl
theorem mone {v : Value} (h : v.oneCell' = true) : ∀ u ∈ [v], u.oneCell' = true := by
  intro u hu
  simp only [List.mem_cons, List.not_mem_nil, or_false] at hu
  subst hu
  exact h
theorem ins_mi {w : World} {b e : Nat} {x : Is} (hb : Blk w b (iC x) e) : InsV (fun c => c = b) w (.slice (some ⟨b, 0, none⟩) 1 1) [x] :=
  ⟨_, 1, rfl, fun _ => ⟨b, 0, rfl, rfl, hb.range (by simp [isC, iC])⟩⟩

theorem splice_in (A R : List Value) (x y z : Value) : splice (A ++ x :: y :: R) (A.length + 1) [z] = A ++ x :: z :: R := by
  have e1 : (A ++ x :: y :: R).take (A.length + 1) = A ++ [x] := by
    rw [List.take_append, List.take_of_length_le (by omega), Nat.add_sub_cancel_left]
    rfl
  have e2 : (A ++ x :: y :: R).drop (A.length + 1 + 1) = R := by
    rw [List.drop_append, List.drop_of_length_le (by omega), show A.length + 1 + 1 - A.length = 2 by omega]
    rfl
  unfold splice
  rw [e1, show A.length + 1 + [z].length = A.length + 1 + 1 from rfl, e2]
  simp
theorem isC_mid (p r : List Is) (x : Is) : isC (p ++ x :: r) = isC p ++ .int .i64 x.1 :: .int .i64 x.2.1 :: .int .i64 x.2.2.1 :: .int .i64 x.2.2.2 :: isC r := by
  simp [isC, iC]
theorem splice_row {cur : List Value} {p r : List Is} {op a c n : Int} (m : Int) (h : cur.take ((p ++ (op, a, c, n) :: r).length * 4) = isC (p ++ (op, a, c, n) :: r)) :
    (splice cur (0 + p.length * 4 + 1) [.int .i64 m]).take ((p ++ (op, a, c, n) :: r).length * 4) = isC (p ++ (op, m, c, n) :: r) := by
  obtain ⟨T, hT⟩ : ∃ T, T = cur.drop ((p ++ (op, a, c, n) :: r).length * 4) := ⟨_, rfl⟩
  have hc : cur = isC (p ++ (op, a, c, n) :: r) ++ T := by rw [hT, ← h, List.take_append_drop]
  have hp : 0 + p.length * 4 + 1 = (isC p).length + 1 := by rw [isC_length]; omega
  have hl : (p ++ (op, a, c, n) :: r).length * 4 = (isC (p ++ (op, m, c, n) :: r)).length := by rw [isC_length]; simp
  have e : splice cur (0 + p.length * 4 + 1) [.int .i64 m] = isC (p ++ (op, m, c, n) :: r) ++ T := by
    rw [hc, hp, isC_mid, isC_mid]
    simp only [List.append_assoc, List.cons_append]
    exact splice_in (isC p) _ _ _ _
  rw [e, hl, List.take_left']
  rfl

/-- What the maker's program is. -/
structure CxK (vs : List VarT) (bd : List ST) (F : Nat → Prop) (w0 : World) (vv bv : Value) : Prop where
  pr : ProgV F w0 (.agg #[vv, bv]) vs bd
  hF : In F w0
  sz : Sized vs

section
variable {w0 w : World} {b : Nat} {v vv bv : Value} {l : List Is}
theorem mnext_ret (h : Mk w0 w b v l vv bv) : Ret Tryz.prog 78 [.pointer (some ⟨b, 0, none⟩)] w fun r w' => r = .int .i64 (l.length : Nat) ∧ w' = w := by
  obtain ⟨a, cap, rfl⟩ := h.row.form
  refine ret_of 8 Tryz.func78 rfl rfl (by simp) ?_
  refine au ?_
  refine pl_val _ rfl rfl (val_load1 hT rfl rfl rfl (h.bk.cell rfl)) ?_
  refine au ?_
  exact rn_ret Tryz.func78 (.inl ⟨_, rfl, rfl⟩) ⟨rfl, rfl⟩

theorem madd_ret (h : Mt w0 w b l vv bv) (x : Is) (hl : l.length ≤ 900000) : Ret Tryz.prog 47 [.pointer (some ⟨b, 0, none⟩), .agg (iC x).toArray] w fun r w' => r = .int .i64 (l.length : Nat) ∧ Mt w0 w' b (l ++ [x]) vv bv ∧ Mf w w' := by
  obtain ⟨v, h⟩ := h
  obtain ⟨a, cap, rfl⟩ := h.row.form
  refine ret_of 19 Tryz.func47 rfl rfl (by simp) ?_
  refine au ?_
  refine pl_op rfl rfl (opTo_boxN (iC x) rfl rfl rfl ?_)
  intro w1 x1 hx1 hs1 hk1 hX1
  have h1 := h.keep0 hk1
  refine au ?_
  refine pl_op rfl rfl (opTo_call (fst := []) (cap := []) rfl rfl rfl rfl (by decide +kernel) ((mnext_ret h1).mono ?_))
  rintro r w1' ⟨rfl, hww⟩
  rw [hww]
  refine au ?_
  refine rn_draw (fun w' => Keep [] w1 w') [7, 10] hMix ?_
  have hS : Keep [] w1 w1.drew := (Keep.refl _ _).drew
  generalize w1.drew = w2 at *
  refine tk 0 ?_
  refine tk 1 ?_
  refine tk 2 ?_
  refine tk 3 ?_
  refine dr_val 4 (.slice a l.length cap) rfl (by decide +kernel) rfl rfl (fun w9 hS9 => val_load1 hT rfl rfl rfl ((hS9.blk h1.bk (by simp)).cell rfl)) hS ?_
  refine dr_val 5 (.agg (iC x).toArray) rfl (by decide +kernel) rfl rfl (fun w9 hS9 => val_load (iC x) hT rfl rfl rfl ((hS9.blk hX1 (by simp)).range (by rfl))) hS ?_
  refine dr_op 6 rfl (by decide +kernel) rfl rfl (opTo_sliceN tIn (iC x) rfl rfl (slice_mi x) ?_)
  intro w3 g hg hs3 hk3 hb3
  refine ⟨fun _ => hS.tr hk3, ?_⟩
  have h3 := h1.keep0 (hS.tr hk3)
  refine dr_op 7 rfl (by decide +kernel) rfl rfl (opTo_rowApp l [x] rfl rfl rfl app_mi h3.row (ins_mi hb3) (by simp; omega) h3.kp.size ?_)
  intro v4 w4 hrow4 hk4
  refine ⟨fun h => absurd (by simp) h, ?_⟩
  obtain ⟨a4, c4, rfl⟩ := hrow4.form
  refine tk 8 ?_
  refine tk 9 ?_
  refine dr_op 10 rfl (by decide +kernel) rfl rfl (opTo_storeN [.slice a4 (l ++ [x]).length c4] rfl rfl rfl rfl size_ms (h3.bkA hk4) (by simp) (mone rfl) ?_)
  intro w5 hs5 hk5 hb5
  refine ⟨fun h => absurd (by simp) h, ?_⟩
  refine dr_done (by decide +kernel) ?_
  obtain ⟨h5, hm5⟩ := h3.app hk4 hrow4 hk5 hb5
  refine au ?_
  exact rn_ret Tryz.func47 (.inl ⟨_, rfl, rfl⟩) ⟨rfl, ⟨_, h5⟩, (Mf.of0 (hk1.tr (hS.tr hk3))).tr hm5⟩

theorem mlead_ret {p r : List Is} {op a c n : Int} (h : Mt w0 w b (p ++ (op, a, c, n) :: r) vv bv) : Ret Tryz.prog 129 [.pointer (some ⟨b, 0, none⟩), .int .i64 (p.length : Nat)] w fun r' w' => r' = .tuple #[] ∧ Mt w0 w' b (p ++ (op, (((p ++ (op, a, c, n) :: r).length : Nat) : Int), c, n) :: r) vv bv ∧ Mf w w' := by
  obtain ⟨v, h⟩ := h
  obtain ⟨L, hL⟩ : ∃ L, L = p ++ (op, a, c, n) :: r := ⟨_, rfl⟩
  have hlen : L.length = p.length + 1 + r.length := by rw [hL]; simp; omega
  rw [← hL] at h
  rcases h.row.2 with ⟨_, h0⟩ | ⟨g, cap, cur, rfl, hB, hb, hc, hl, ht⟩
  · omega
  refine ret_of 13 Tryz.func129 rfl rfl (by simp) ?_
  refine au ?_
  refine rn_draw (fun w' => Keep [] w w') [9] hMix ?_
  have hS : Keep [] w w.drew := (Keep.refl _ _).drew
  generalize w.drew = w2 at *
  refine tk 0 ?_
  refine tk 1 ?_
  refine tk 2 ?_
  refine dr_val 3 (.slice (some ⟨g, 0, none⟩) L.length cap) rfl (by decide +kernel) rfl rfl (fun w9 hS9 => val_load1 hT rfl rfl rfl ((hS9.blk h.bk (by simp)).cell rfl)) hS ?_
  refine tk 4 ?_
  refine tk 5 ?_
  refine dr_op 6 rfl (by decide +kernel) rfl rfl (opTo_call (fst := []) (cap := []) rfl rfl rfl rfl (by decide +kernel) ((mnext_ret (h.keep0 hS)).mono ?_))
  rintro r' w2' ⟨rfl, hww⟩
  rw [hww]
  refine ⟨fun _ => hS, ?_⟩
  refine dr_any 7 _ rfl (by decide +kernel) rfl rfl (fun w => val_index p.length hT rfl rfl rfl rfl rfl (by omega) w) ?_
  refine tk 8 ?_
  have hb2 := hS.blk hb (by simp)
  refine dr_op 9 rfl (by decide +kernel) rfl rfl (opTo_storeN [.int .i64 (L.length : Nat)] rfl rfl rfl rfl size_mn hb2 (by simp; omega) (mone rfl) ?_)
  intro w3 hs3 hk3 hb3
  refine ⟨fun h => absurd (by simp) h, ?_⟩
  refine dr_done (by decide +kernel) ?_
  have h2 := h.keep0 hS
  have hgb : g ≠ b := Blk.ne hb h.bk neMI.symm
  refine au ?_
  refine rn_end Tryz.func129 (.inr (.inl ⟨rfl, rfl⟩)) ⟨rfl, ⟨.slice (some ⟨g, 0, none⟩) L.length cap, h2.kp.trB hk3 hB, h.ge, hk3.blk h2.bk (by simpa using hgb.symm), ?_⟩, (Mf.of0 hS).tr (Mf.of hk3 fun k hm => ⟨cur, tIn, by rw [List.mem_singleton.1 hm]; exact hb2, .inr rfl⟩)⟩
  have e : (p ++ (op, (((p ++ (op, a, c, n) :: r).length : Nat) : Int), c, n) :: r).length = L.length := by rw [hL]; simp
  refine ⟨isC_length _, .inr ⟨g, cap, _, by rw [e], hB, hb3, by rw [e]; exact hc, by rw [splice_length (by simp; omega)]; exact hl, ?_⟩⟩
  rw [e]
  rw [hL] at ht ⊢
  exact splice_row _ ht

theorem mcell_ret {vs : List VarT} {bd : List ST} {F : Nat → Prop} (C : CxK vs bd F w0 vv bv) (h : Mk w0 w b v l vv bv) (k : Int) : Ret Tryz.prog 101 [.pointer (some ⟨b, 0, none⟩), .int .i64 k] w fun r w' => r = .int .i64 (cellOf vs k) ∧ Keep [] w w' := by
  refine ret_of 11 Tryz.func101 rfl rfl (by simp) ?_
  refine au ?_
  refine pl_val (.agg #[vv, bv]) rfl rfl (val_load [vv, bv] hT rfl rfl rfl (h.bk.range (by rfl))) ?_
  refine au ?_
  refine pl_op rfl rfl (opTo_call (fst := []) (cap := []) rfl rfl rfl rfl (by decide +kernel) ((cell_ret (C.pr.keep h.kp C.hF.stays) (C.hF.keep h.kp) C.sz k).mono ?_))
  rintro r w1 ⟨rfl, hk1⟩
  refine au ?_
  exact rn_ret Tryz.func101 (.inl ⟨_, rfl, rfl⟩) ⟨rfl, hk1⟩

theorem msize_ret {vs : List VarT} {bd : List ST} {F : Nat → Prop} (C : CxK vs bd F w0 vv bv) (h : Mk w0 w b v l vv bv) (k : Int) (h0 : 0 ≤ k) (hk : k.toNat < vs.length) : Ret Tryz.prog 102 [.pointer (some ⟨b, 0, none⟩), .int .i64 k] w fun r w' => r = .int .i64 (sizeV vs k) ∧ w' = w := by
  obtain ⟨k, rfl⟩ : ∃ k' : Nat, k = (k' : Nat) := ⟨k.toNat, by omega⟩
  simp only [Int.toNat_natCast] at hk
  have hxv : vs[k]? = some vs[k] := List.getElem?_eq_getElem hk
  obtain ⟨vv', bv', hpe, hv, _⟩ := C.pr
  cases hpe
  obtain ⟨vb, vq, vc, rfl, hFv, hrv⟩ := hv.at hxv
  have hsv : sizeV vs ((k : Nat) : Int) = vs[k].2 := by
    unfold sizeV
    rw [Int.toNat_natCast, List.getD_eq_getElem?_getD, hxv]
    rfl
  rw [hsv]
  refine ret_of 14 Tryz.func102 rfl rfl (by simp) ?_
  refine au ?_
  refine pl_val _ rfl rfl (val_load1 hT rfl rfl rfl (h.bk.cell rfl)) ?_
  refine au ?_
  refine pl_val _ rfl rfl (val_index k hT rfl rfl rfl rfl rfl hk w) ?_
  refine au ?_
  refine pl_val _ rfl rfl (val_load1 hT rfl rfl rfl ((range_keep hrv h.kp (C.hF _ hFv) (by simp)) 1 (.int .i64 vs[k].2) rfl)) ?_
  refine au ?_
  exact rn_ret Tryz.func102 (.inl ⟨_, rfl, rfl⟩) ⟨rfl, rfl⟩
end
end E
end Go.Proofs.YtmplkogkphmmjafGreat

/- The landed maker: contract of expr. -/
namespace Go.Proofs.YtmplkogkphmmjafGreat
set_option maxRecDepth 20000
set_option maxHeartbeats 4000000
namespace E
open Go.Proofs

theorem neEM : 94 ≠ tMk := by decide
theorem neEI : 94 ≠ tIn := by decide
theorem zero_me : ((Tryz.prog.info? 94).bind (·.zero)).map (·.cells) = some [Value.int .i64 0, .int .i64 0, .int .i64 0, .slice none 0 0].toArray := by kernel_rfl
theorem size_me : sizeOk Tryz.prog 94 4 = true := by kernel_rfl

/-- expr does for what is smaller. -/
def ExM (vs : List VarT) (F : Nat → Prop) (w0 : World) (b : Nat) (vv bv : Value) (s : Nat) : Prop := ∀ (t : ET), szE t < s → gdE vs.length t → ∀ {w : World} {cs : List Value} {L : List Is}, ExprV F w0 cs t → Mt w0 w b L vv bv → L.length + szE t ≤ 900000 →
    Ret Tryz.prog 100 [.pointer (some ⟨b, 0, none⟩), .agg cs.toArray] w fun r w' => r = .tuple #[] ∧ Mt w0 w' b (L ++ insE vs t) vv bv ∧ Mf w w'

theorem mexpr_ret {vs : List VarT} {bd : List ST} {F : Nat → Prop} {w0 : World} {vv bv : Value} (C : CxK vs bd F w0 vv bv) {b : Nat} : ∀ (s : Nat), ExM vs F w0 b vv bv s := by
  intro s
  induction s with
  | zero => intro t ht; omega
  | succ s ihs =>
    intro t ht hgd w cs L hX h hl
    obtain ⟨op, v, n, l⟩ := t
    obtain ⟨lv, rfl, hE⟩ := hX.inv
    obtain ⟨a, cap, rfl⟩ := hE.form
    obtain ⟨hg1, hg2⟩ := hgd
    simp only [szE] at ht hl
    have hlen := szEs_len l
    have hil := insEs_len vs l
    refine ret_of 49 Tryz.func100 rfl rfl (by simp) ?_
    refine au ?_
    refine pl_op rfl rfl (opTo_boxN [.int .i64 op, .int .i64 v, .int .i64 n, .slice a l.length cap] rfl rfl rfl ?_)
    intro w1 x1 hx1 hs1 hk1 hX1
    have h1 := h.keep0 hk1
    refine auj ?_
    refine rn_seq ?_
    refine rn_seq ?_
    refine auj ?_
    refine rn_plain ?_
    refine auj ?_
    refine pl_val _ rfl rfl (val_load1 hT rfl rfl rfl (hX1.cell rfl)) ?_
    refine au ?_
    refine rn_ind (fun m σ w' => ∃ i : Nat, i ≤ l.length ∧ m = l.length - i ∧ σ = [(0, .pointer (some ⟨b, 0, none⟩)), (3, .pointer (some ⟨x1, 0, none⟩)), (8, .slice a l.length cap), (9, .int .i64 (l.length : Nat)), (10, .int .i64 (i : Nat))] ∧ Mt w0 w' b (L ++ insEs vs (l.take i)) vv bv ∧ Mf w1 w') l.length _ ?_ ⟨0, by omega, by omega, rfl, by simpa [insEs] using h1, Mf.refl _⟩ ?_
    · exact ⟨rfl, rfl, rfl, rfl, rfl, trivial⟩
    rintro m σ w6 ih ⟨i, hi, rfl, rfl, h6, ho6⟩
    refine au ?_
    by_cases hlt : i < l.length
    · refine ye ?_
      have hxi : l[i]? = some l[i] := List.getElem?_eq_getElem hlt
      obtain ⟨b1, q1, c1, ci, hv1, hF1, hr1, hc1⟩ := hE.at hxi
      cases hv1
      have hszi := szEs_succ hxi
      have hszt := szEs_take l (i + 1)
      have hl1 := insEs_len vs (l.take i)
      have htk := insEs_take vs hxi
      refine au ?_
      refine pl_val _ rfl rfl (val_index i hT rfl rfl rfl rfl rfl hlt w6) ?_
      refine pl_val (.agg ci.toArray) rfl rfl (val_load ci hT rfl rfl (by rw [hc1.length]; rfl) (range_keep hr1 h6.kp (C.hF _ hF1) (by simp))) ?_
      refine pl_op rfl rfl (opTo_allocN _ rfl zero_me ?_)
      intro w7 x2 hx2 hs7 hk7 hb7
      refine pl_op rfl rfl (opTo_storeN ci rfl rfl rfl rfl (by rw [hc1.length]; exact size_me) hb7 (by rw [hc1.length]; simp) hc1.one ?_)
      intro w8 hs8 hk8 hb8
      rw [splice_whole (by rw [hc1.length]; rfl)] at hb8
      have hk68 : Keep [] w6 w8 := hk7.trB hk8 (by omega)
      refine au ?_
      refine pl_val (.agg ci.toArray) rfl rfl (val_load ci hT rfl rfl (by rw [hc1.length]; rfl) (hb8.range (by simp))) ?_
      refine pl_op rfl rfl (opTo_call (fst := []) (cap := []) rfl rfl rfl rfl (by decide +kernel) ((ihs l[i] (by omega) (gdEs_at hg2 hxi) hc1 (h6.keep0 hk68) (by simp only [List.length_append]; omega)).mono ?_))
      rintro r w9 ⟨rfl, h9, ho9⟩
      refine au ?_
      refine pl_num (((i + 1 : Nat) : Int)) rfl rfl rfl rfl rfl (by simp only [ariP]; omega) ?_
      refine au ?_
      refine rn_sub ?_ (ih (l.length - (i + 1)) [(0, .pointer (some ⟨b, 0, none⟩)), (3, .pointer (some ⟨x1, 0, none⟩)), (8, .slice (some ⟨b1, q1, none⟩) l.length cap), (9, .int .i64 (l.length : Nat)), (10, .int .i64 ((i + 1 : Nat) : Int))] w9 (by omega) ⟨i + 1, by omega, rfl, rfl, ?_, (ho6.tr (Mf.of0 hk68)).tr ho9⟩)
      · exact ⟨rfl, rfl, rfl, rfl, rfl, trivial⟩
      · rw [htk, ← List.append_assoc]
        exact h9
    · refine nay ?_
      rw [List.take_of_length_le (by omega)] at h6
      have hX6 := ho6.blk hX1 neEM neEI
      refine au ?_
      refine pl_val _ rfl rfl (val_load1 hT rfl rfl rfl (hX6.cell rfl)) ?_
      refine au ?_
      refine pl_val _ rfl rfl (val_load1 hT rfl rfl rfl (hX6.cell rfl)) ?_
      refine pl_val _ rfl rfl (val_build _ rfl rfl (built_mi03 op n) w6) ?_
      refine pl_op rfl rfl (opTo_allocN _ rfl zero_mi ?_)
      intro w7 x7 hx7 hs7 hk7 hb7
      refine pl_op rfl rfl (opTo_storeN (iC (op, 0, 0, n)) rfl rfl rfl rfl size_mi hb7 (by simp [iC]) (iC_mone _) ?_)
      intro w8 hs8 hk8 hb8
      rw [splice_whole (by rfl)] at hb8
      have hk68 : Keep [] w6 w8 := hk7.trB hk8 (by omega)
      have hX8 := hk68.blk hX6 (by simp)
      obtain ⟨mv, h8⟩ := h6.keep0 hk68
      refine auj ?_
      refine rn_seq ?_
      refine rn_with (fun σ' w' => Blk w' x7 (iC (op, if op = 2 ∨ op = 3 then cellOf vs v else 0, if op = 3 then sizeV vs v else 0, n)) tIn ∧ Keep [] w6 w' ∧ Sub [(0, .pointer (some ⟨b, 0, none⟩)), (6, .pointer (some ⟨x7, 0, none⟩))] σ') ?_ ?_
      rotate_left
      · intro fin
        refine au ?_
        refine pl_val _ rfl rfl (val_load1 hT rfl rfl rfl (hX8.cell rfl)) ?_
        refine au ?_
        by_cases h2 : op = 2
        · rw [if_pos (.inl h2), if_neg (by omega)] at fin
          refine ye ?_
          refine auj ?_
          refine rn_plain ?_
          refine auj ?_
          refine pl_val _ rfl rfl (val_load1 hT rfl rfl rfl (hX8.cell rfl)) ?_
          refine pl_op rfl rfl (opTo_call (fst := []) (cap := []) rfl rfl rfl rfl (by decide +kernel) ((mcell_ret C h8 v).mono ?_))
          rintro r w9 ⟨rfl, hk9⟩
          refine au ?_
          refine pl_op rfl rfl (opTo_storeN [.int .i64 (cellOf vs v)] rfl rfl rfl rfl size_mn (hk9.blk hb8 (by simp)) (by simp [iC]) (mone rfl) ?_)
          intro w10 hs10 hk10 hb10
          refine auj ?_
          exact fin _ _ ⟨hb10, (hk68.tr hk9).trB hk10 (by omega), rfl, rfl, trivial⟩
        · refine nay ?_
          refine au ?_
          by_cases h3 : op = 3
          · obtain ⟨hv0, hvl⟩ := hg1 (.inr h3)
            rw [if_pos (.inr h3), if_pos h3] at fin
            refine ye ?_
            refine auj ?_
            refine rn_draw (fun w' => Keep [] w8 w') [9, 11] hMix ?_
            have hS : Keep [] w8 w8.drew := (Keep.refl _ _).drew
            generalize w8.drew = w9 at *
            refine tk 0 ?_
            refine tk 1 ?_
            refine dr_val 2 (.int .i64 v) rfl (by decide +kernel) rfl rfl (fun w9 hS9 => val_load1 hT rfl rfl rfl ((hS9.blk hX8 (by simp)).cell rfl)) hS ?_
            refine tk 4 ?_
            refine tk 5 ?_
            refine dr_val 6 (.int .i64 v) rfl (by decide +kernel) rfl rfl (fun w9 hS9 => val_load1 hT rfl rfl rfl ((hS9.blk hX8 (by simp)).cell rfl)) hS ?_
            refine dr_op 3 rfl (by decide +kernel) rfl rfl (opTo_call (fst := []) (cap := []) rfl rfl rfl rfl (by decide +kernel) ((mcell_ret C (h8.keep0 hS) v).mono ?_))
            rintro r w10 ⟨rfl, hk10⟩
            have hS10 := hS.tr hk10
            refine ⟨fun _ => hS10, ?_⟩
            refine tk 8 ?_
            refine dr_op 7 rfl (by decide +kernel) rfl rfl (opTo_call (fst := []) (cap := []) rfl rfl rfl rfl (by decide +kernel) ((msize_ret C (h8.keep0 hS10) v hv0 hvl).mono ?_))
            rintro r w10' ⟨rfl, hww⟩
            rw [hww]
            refine ⟨fun _ => hS10, ?_⟩
            refine dr_op 9 rfl (by decide +kernel) rfl rfl (opTo_storeN [.int .i64 (cellOf vs v)] rfl rfl rfl rfl size_mn (hS10.blk hb8 (by simp)) (by simp [iC]) (mone rfl) ?_)
            intro w11 hs11 hk11 hb11
            refine ⟨fun h => absurd (by simp) h, ?_⟩
            refine tk 10 ?_
            refine dr_op 11 rfl (by decide +kernel) rfl rfl (opTo_storeN [.int .i64 (sizeV vs v)] rfl rfl rfl rfl size_mn hb11 (by simp [iC, splice]) (mone rfl) ?_)
            intro w12 hs12 hk12 hb12
            refine ⟨fun h => absurd (by simp) h, ?_⟩
            refine dr_done (by decide +kernel) ?_
            refine auj ?_
            exact fin _ _ ⟨hb12, ((hk68.tr hS10).trB hk11 (by omega)).trB hk12 (by omega), rfl, rfl, trivial⟩
          · refine nay ?_
            rw [if_neg (by omega), if_neg h3] at fin
            refine auj ?_
            exact fin _ _ ⟨hb8, hk68, rfl, rfl, trivial⟩
      clear hb8 hk8 hs8 h8 hX8 hk68
      rintro σ' w10 ⟨hb10, hk610, hsub⟩
      refine rn_sub hsub ?_
      obtain ⟨X, hXe⟩ : ∃ X : Is, X = (op, if op = 2 ∨ op = 3 then cellOf vs v else 0, if op = 3 then sizeV vs v else 0, n) := ⟨_, rfl⟩
      rw [← hXe] at hb10
      refine rn_draw (fun w' => Keep [] w10 w') [4] hMix ?_
      have hS : Keep [] w10 w10.drew := (Keep.refl _ _).drew
      generalize w10.drew = w11 at *
      refine tk 0 ?_
      refine tk 1 ?_
      refine tk 2 ?_
      refine dr_val 3 (.agg (iC X).toArray) rfl (by decide +kernel) rfl rfl (fun w9 hS9 => val_load (iC X) hT rfl rfl rfl ((hS9.blk hb10 (by simp)).range (by rfl))) hS ?_
      refine dr_op 4 rfl (by decide +kernel) rfl rfl (opTo_call (fst := []) (cap := []) rfl rfl rfl rfl (by decide +kernel) ((madd_ret (h6.keep0 (hk610.tr hS)) X (by simp only [List.length_append]; omega)).mono ?_))
      rintro r w12 ⟨rfl, h12, ho12⟩
      refine ⟨fun h => absurd (by simp) h, ?_⟩
      refine dr_done (by decide +kernel) ?_
      refine au ?_
      refine rn_end Tryz.func100 (.inr (.inl ⟨rfl, rfl⟩)) ⟨rfl, ?_, ((Mf.of0 hk1).tr ho6).tr ((Mf.of0 (hk610.tr hS)).tr ho12)⟩
      simp only [insE]
      rw [← hXe, ← List.append_assoc]
      exact h12
end E
end Go.Proofs.YtmplkogkphmmjafGreat
