/- Several texts in one: MaH, LfQ, LiftI, LiftX, LwD, MnA, MwB. -/
import Derived.Test.YtmplkogkphmmjafGreatJ15
import Derived.Test.YtmplkogkphmmjafGreatJ10
import Derived.Test.YtmplkogkphmmjafGreatJ04
import Derived.Test.YtmplkogkphmmjafGreatJ03
import Derived.Test.YtmplkogkphmmjafGreatJ09
/- Helpers for the walks of the laws of package machine. -/
namespace Go.Proofs.YtmplkogkphmmjafGreat
set_option maxRecDepth 20000
set_option maxHeartbeats 4000000
namespace E
open Go.Proofs

theorem DiskV.lower {B B' : Nat} {w : World} {d : Nat} {S : List Int} {L : List Wr} {wv : Value} (h : DiskV B w d S L wv) (hB : B' ≤ B) : DiskV B' w d S L wv := by
  refine ⟨h.blk, ⟨h.owns.1, ?_⟩, h.ne, h.len, Nat.le_trans hB h.base, h.wf⟩
  rcases h.owns.2 with h0 | ⟨g, cap, cur, h1, h2, r⟩
  · exact .inl h0
  · exact .inr ⟨g, cap, cur, h1, Nat.le_trans hB h2, r⟩
theorem InpV.keep0 {w w' : World} {v : Value} {l : List Int} (h : InpV w v l) (hk : Keep [] w w') : InpV w' v l := by
  obtain ⟨a, cap, h1, h2⟩ := h
  refine ⟨a, cap, h1, fun h0 => ?_⟩
  obtain ⟨b, q, h3, h4, h5⟩ := h2 h0
  exact ⟨b, q, h3, Nat.lt_of_lt_of_le h4 hk.size, range_keep h5 hk h4 (by simp)⟩
theorem InpV.ro {w w' : World} {v : Value} {l : List Int} (h : InpV w v l) (hk : Keep [] w w') : LsR (fun b => b < w.heap.size) w' v l := by
  obtain ⟨a, cap, h1, h2⟩ := h
  refine ⟨a, cap, h1, fun h0 => ?_⟩
  obtain ⟨b, q, h3, h4, h5⟩ := h2 h0
  exact ⟨b, q, h3, h4, range_keep h5 hk h4 (by simp)⟩
theorem InpV.lies {w w' : World} {v : Value} {l : List Int} (h : InpV w v l) (hk : Keep [] w w') : LsV w' v l := h.keep0 hk
/-- All of a new machine is new. -/
theorem mach_ge {n a d s m q : Nat} {fp : List Nat} (hf : ∀ k ∈ fp, k ∈ fpM d s m (.slice none 0 0) ∨ k ∈ [q] ∨ n ≤ k) (hd : a ≤ d) (hs : a ≤ s) (hm : a ≤ m) (hq : a ≤ q) (hn : a ≤ n) : ∀ k ∈ fp, a ≤ k := by
  intro k hk
  rcases hf k hk with h | h | h
  · simp only [fpM, fpD, Value.ownBlock, Option.toList, List.mem_cons, List.not_mem_nil, or_false] at h
    rcases h with rfl | rfl | rfl <;> assumption
  · rw [List.mem_singleton.1 h]; exact hq
  · omega
theorem RowI.low {w : World} {B B' e : Nat} {v : Value} {l : List Is} (h : RowI e w B v l) (hB : B' ≤ B) : RowI e w B' v l := h.lower hB
theorem RowL.low {w : World} {B B' : Nat} {v : Value} {l : List Int} (h : RowL w B v l) (hB : B' ≤ B) : RowL w B' v l := by
  refine ⟨h.1, ?_⟩
  rcases h.2 with h0 | ⟨g, cap, cur, h1, h2, r⟩
  · exact .inl h0
  · exact .inr ⟨g, cap, cur, h1, Nat.le_trans hB h2, r⟩
/-- Over an earlier world. -/
theorem Bw.base {w1 w0 w : World} {b : Nat} {W : List Is} {inp : List Int} {cv iv : Value} {r : Rws} {m k : Md} {p : Pr} (h : Bw w0 w b W inp cv iv r m k p) (hk : Keep [] w1 w0) (hi : InpV w1 iv inp) : Bw w1 w b W inp cv iv r m k p :=
  ⟨hk.tr h.kp, Nat.le_trans hk.size h.ge, h.bk, h.cd.low hk.size, hi, h.rs.low hk.size, h.rc.low hk.size, h.rks.low hk.size, h.rkc.low hk.size, h.ro.low hk.size, h.ap⟩
theorem ord0 {c : Nat} {Q : List Is} {inp : List Int} {m q : Nat} (hP : Prg c Q) (hc : c ≤ 48) (hi : inp.length ≤ 1000) (left : Int) : Ord c Q ⟨Q ++ [haltI], inp, m, q, mind0 c, ([], false), left, false, genS S0⟩ 0 :=
  ⟨⟨hP, hc, rfl, fit0 _, hi, Nat.le_refl _, Nat.le_refl _, by show (0 : Int) ≤ genS S0; rw [genS0]; decide, by show genS S0 ≤ ((0 : Nat) : Int); rw [genS0]; decide, Nat.zero_le _⟩, rfl, rfl⟩
theorem cells_len {c i : Nat} {Q : List Is} {M : Mx} (h : Ord c Q M i) : M.md.cells.length = c := by
  have := h.fit.cells
  omega
theorem cellOf_len (vs : List VarT) : cellOf vs ((vs.length : Nat) : Int) = sumV vs := by
  unfold cellOf
  rw [Int.toNat_natCast, List.take_length]
end E
end Go.Proofs.YtmplkogkphmmjafGreat

/- The law LifeDoes, walked from what is to be shown of package life. -/
namespace Go.Proofs.YtmplkogkphmmjafGreat
set_option maxRecDepth 20000
set_option maxHeartbeats 4000000
namespace E
open Go.Proofs

theorem built_q0 : Tryz.prog.built 35 [] = some (resC 0 (.slice none 0 0) (.slice none 0 0)).toArray := by kernel_rfl
theorem built_q1 (n : Int) : Tryz.prog.built 45 [(0, .int .i64 1), (1, .int .i64 n)] = some (spC (1, n, 0, 0)).toArray := by kernel_rfl
theorem zero_q : ((Tryz.prog.info? 45).bind (·.zero)).map (·.cells) = some (spC (0, 0, 0, 0)).toArray := by kernel_rfl
theorem size_q : sizeOk Tryz.prog 45 4 = true := by kernel_rfl
theorem ls_q (w : World) : LsV w (.slice none 0 0) [] := ⟨none, 0, rfl, fun h => absurd h (by simp)⟩
theorem notin_step {fp fp' : List Nat} {w : World} {x : Nat} (h : x ∉ fp) (hx : x < w.heap.size) (hf : ∀ k ∈ fp', k ∈ fp ∨ w.heap.size ≤ k) : x ∉ fp' := fun hm => by
  rcases hf x hm with h1 | h1
  · exact h h1
  · omega
theorem dis_step {fp fp' fq : List Nat} {w : World} (h : ∀ k ∈ fp, k ∉ fq) (hq : ∀ k ∈ fq, k < w.heap.size) (hf : ∀ k ∈ fp', k ∈ fp ∨ w.heap.size ≤ k) : ∀ k ∈ fp', k ∉ fq := fun k hk hm => by
  rcases hf k hk with h1 | h1
  · exact h k h1 hm
  · have := hq k hm; omega
theorem livesL_snoc (W : List Is) (inp : List Int) (s : Sp) : ∀ (l : List Sp) (x : Lf), livesL W inp (l ++ [s]) x = if spFault s = 0 then (doSp W inp s (livesL W inp l x)).1 else livesL W inp l x
  | [], x => rfl
  | t :: r, x => by
    simp only [List.cons_append, livesL]
    exact livesL_snoc W inp s r _
theorem badL_snoc (s : Sp) : ∀ (l : List Sp), badL (l ++ [s]) = if badL l = 0 then spFault s else badL l
  | [] => by
    have e : badL ([] ++ [s]) = if spFault s = 0 then 0 else spFault s := rfl
    have e2 : badL [] = 0 := rfl
    rw [e, e2, if_pos rfl]
    split
    · rename_i h; exact h.symm
    · rfl
  | t :: r => by
    have e : badL (t :: r ++ [s]) = if spFault t = 0 then badL (r ++ [s]) else spFault t := rfl
    have e2 : badL (t :: r) = if spFault t = 0 then badL r else spFault t := rfl
    by_cases h : spFault t = 0
    · rw [if_pos h] at e e2
      rw [e, e2]
      exact badL_snoc s r
    · rw [if_neg h] at e e2
      rw [e, e2, if_neg h]

theorem lifeDoes_ret {nw : List Is → List Int → Md → List Int → List Int} {LV : List VarT → List ST → List Int → Nat → World → Nat → List Nat → Lz → Prop} (I : LfI nw LV) {w : World} {x iv lv : Value} {vs : List VarT} {body : List ST} {inp : List Int} {l : List Sp}
    (h : ProgV (fun b => b < w.heap.size) w x vs body) (hi : LsC w iv inp) (hl : SpV w lv l) (hlo : ∀ s ∈ l, SpOk s) (fuel : Int) :
    Ret Tryz.prog 3 [x, iv, lv, .int .i64 fuel] w fun r w' => r = .bool true ∧ Keep [] w w' := by
  have hF : In (fun b => b < w.heap.size) w := fun c hc => hc
  have hh := h
  obtain ⟨vv, bv, rfl, hv, hb⟩ := h
  obtain ⟨av, capv, rfl⟩ := hv.form
  obtain ⟨ab, capb, rfl⟩ := hb.form
  have hic := hi
  obtain ⟨⟨ia, icap, rfl, _⟩, _⟩ := hi
  obtain ⟨la, lcap, rfl⟩ := hl.form
  refine ret_of 149 Tryz.func3 rfl rfl (by simp) ?_
  refine au ?_
  refine pl_op rfl rfl (opTo_boxN [.slice av vs.length capv, .slice ab body.length capb] rfl rfl rfl ?_)
  intro w1 p hp0 hs1 hk1 hp1
  refine au ?_
  refine pl_op rfl rfl (opTo_call (fst := []) (cap := []) rfl rfl rfl rfl (by decide +kernel) ((lifeBegun_ret I w1).mono ?_))
  rintro r w2 ⟨rfl, hk2⟩
  have hk02 := hk1.tr hk2
  have hp2 := hk2.blk hp1 (by simp)
  refine au ?_
  refine pl_val _ rfl rfl (val_load [.slice av vs.length capv, .slice ab body.length capb] hT rfl rfl rfl (hp2.range (by rfl))) ?_
  refine au ?_
  refine pl_op rfl rfl (opTo_call (fst := []) (cap := []) rfl rfl rfl rfl (by decide +kernel) ((greatLife_ret (hh.keep hk02 hF.stays) (hF.keep hk02) ⟨ia, icap, rfl⟩ (hl.keep0 hk02)).mono ?_))
  rintro r w3 ⟨⟨g, rfl, hg⟩, hk3⟩
  have hk03 := hk02.tr hk3
  have hp3 := hk3.blk hp2 (by simp)
  cases g with
  | true =>
    refine au ?_
    exact rn_ret Tryz.func3 (.inl ⟨_, rfl, rfl⟩) ⟨rfl, hk03⟩
  | false =>
    obtain ⟨h30, hnm, hsz, hil, hll, hns⟩ := hg rfl
    have hnm' : ∀ y ∈ vs, y.1.size ≤ 100000 := fun y hy => by have := hnm y hy; omega
    refine au ?_
    refine pl_val _ rfl rfl (val_load [.slice av vs.length capv, .slice ab body.length capb] hT rfl rfl rfl (hp3.range (by rfl))) ?_
    refine au ?_
    refine pl_op rfl rfl (opTo_call (fst := []) (cap := []) rfl rfl rfl rfl (by decide +kernel) ((I.new (hh.keep hk03 hF.stays) (hF.keep hk03) (hic.keep0 hk03) (by omega) (by omega) (by omega)).mono ?_))
    rintro r w4 ⟨⟨pv, rfl, hnew⟩, hk4⟩
    have hk04 := hk03.tr hk4
    have hp4 := hk4.blk hp3 (by simp)
    refine au ?_
    refine pl_val _ rfl rfl (val_load [.slice av vs.length capv, .slice ab body.length capb] hT rfl rfl rfl (hp4.range (by rfl))) ?_
    refine pl_op rfl rfl (opTo_call (fst := []) (cap := []) rfl rfl rfl rfl (by decide +kernel) ((refFault_ret (hh.keep hk04 hF.stays) (hF.keep hk04) hnm' (by omega)).mono ?_))
    rintro r w5 ⟨rfl, hk5⟩
    have hk05 := hk04.tr hk5
    have hp5 := hk5.blk hp4 (by simp)
    refine auj ?_
    refine rn_seq ?_
    refine rn_with (fun σ' w' => w' = w5 ∧ Sub [(1, .slice ia inp.length icap), (2, .slice la l.length lcap), (3, .int .i64 fuel), (4, .pointer (some ⟨p, 0, none⟩)), (9, pv), (10, .int .i64 (newF vs body inp)), (11, .int .i64 (newF vs body inp))] σ') ?_ ?_
    rotate_left
    · intro fin
      refine rn_seq ?_
      refine rn_plain ?_
      refine auj ?_
      by_cases hpf : progFault vs body = 0
      · refine ye ?_
        refine auj ?_
        by_cases hin : 40 < inp.length
        · have hn : newF vs body inp = 1 := by
            unfold newF
            rw [if_pos hpf, if_neg (by omega)]
          refine ye ?_
          refine auj ?_
          refine rn_plain ?_
          refine auj ?_
          rw [hn] at fin ⊢
          exact fin _ _ ⟨rfl, rfl, rfl, rfl, rfl, rfl, rfl, rfl, trivial⟩
        · have hn : newF vs body inp = 0 := by
            unfold newF
            rw [if_pos hpf, if_pos (by omega)]
          refine nay ?_
          refine auj ?_
          rw [hn] at fin ⊢
          rw [hpf]
          exact fin _ _ ⟨rfl, rfl, rfl, rfl, rfl, rfl, rfl, rfl, trivial⟩
      · have hn : newF vs body inp = progFault vs body := by
          unfold newF
          rw [if_neg hpf]
        refine nay ?_
        refine auj ?_
        rw [hn] at fin ⊢
        exact fin _ _ ⟨rfl, rfl, rfl, rfl, rfl, rfl, rfl, rfl, trivial⟩
    rintro σ' w6 ⟨rfl, hsub⟩
    refine rn_sub hsub ?_
    refine au ?_
    refine pl_val _ rfl rfl (val_load [.slice av vs.length capv, .slice ab body.length capb] hT rfl rfl rfl (hp5.range (by rfl))) ?_
    refine au ?_
    obtain ⟨U, hUe⟩ : ∃ U, U = runF vs body inp l fuel := ⟨_, rfl⟩
    refine pl_op rfl rfl (opTo_call (fst := []) (cap := []) rfl rfl rfl rfl (by decide +kernel) ((I.run fuel (hh.keep hk05 hF.stays) (hF.keep hk05) (hic.keep0 hk05) (hl.keep0 hk05) (by omega) (by omega) (by omega) (by omega) hlo hns).mono ?_))
    rintro r w7 ⟨⟨ov, cv, rfl, hov7, hcv7, n1, n2⟩, hk7⟩
    rw [← hUe] at hov7 hcv7 ⊢
    obtain ⟨oa, ok, rfl⟩ := hov7.form
    obtain ⟨ca, ck, rfl⟩ := hcv7.form
    refine au ?_
    refine pl_op rfl rfl (opTo_allocN _ rfl zero_re ?_)
    intro w8 x8 hx8 hs8 hk8 hb8
    refine pl_op rfl rfl (opTo_storeN (resC U.code (.slice oa U.out.length ok) (.slice ca U.cells.length ck)) rfl rfl rfl rfl size_re hb8 (by simp [resC]) (resC_one _ _ _ _ _ _ _) ?_)
    intro w9 hs9 hk9 hb9
    rw [splice_whole (by rfl)] at hb9
    have hk79 : Keep [] w7 w9 := hk8.trB hk9 (by omega)
    have hk69 := hk7.tr hk79
    have hk49 := hk5.tr hk69
    have hk09 := hk05.tr hk69
    have hp9 := hk69.blk hp5 (by simp)
    have hov9 := hov7.keep0 hk79
    have hcv9 := hcv7.keep0 hk79
    refine au ?_
    by_cases hc0 : ¬ newF vs body inp = 0
    · have hU : U = ⟨0, [], [], 0, newF vs body inp⟩ := by
        rw [hUe]
        unfold runF
        rw [if_pos (by omega), if_neg hc0]
      have u1 : U.code = 0 := by rw [hU]
      have u2 : U.out = [] := by rw [hU]
      have u3 : U.cells = [] := by rw [hU]
      have u5 : U.fault = newF vs body inp := by rw [hU]
      rw [u1, u2, u3] at hb9
      rw [u2] at hov9
      rw [u3] at hcv9
      refine ye ?_
      refine au ?_
      refine ye ?_
      refine au ?_
      refine ye ?_
      refine au ?_
      refine pl_val _ rfl rfl (val_load (resC 0 (.slice oa ([] : List Int).length ok) (.slice ca ([] : List Int).length ck)) hT rfl rfl rfl (hb9.range (by rfl))) ?_
      refine pl_val _ rfl rfl (val_build _ rfl rfl built_q0 w9) ?_
      refine pl_op rfl rfl (opTo_call (fst := []) (cap := []) rfl rfl rfl rfl (by decide +kernel) ((sameRes_ret 0 hov9 hcv9 (ls_q w9) (ls_q w9) (by decide) (by decide)).mono ?_))
      rintro r w10 ⟨rfl, hk10⟩
      refine au ?_
      exact rn_ret Tryz.func3 (.inl ⟨_, rfl, rfl⟩) ⟨rfl, hk09.tr hk10⟩
    replace hc0 : newF vs body inp = 0 := by omega
    obtain ⟨y, fp, rfl, hy4⟩ := hnew hc0
    have hpf : progFault vs body = 0 := by
      unfold newF at hc0
      split at hc0
      · assumption
      · exact hc0
    have hin : inp.length ≤ 40 := by
      unfold newF at hc0
      rw [if_pos hpf] at hc0
      split at hc0
      · assumption
      · cases hc0
    have hBw : w.heap.size ≤ w3.heap.size := hk03.size
    rw [hc0]
    refine nay ?_
    refine au ?_
    refine nay ?_
    refine au ?_
    obtain ⟨c, hc, hc48, hP⟩ := prog_prg hpf (by omega : szSs body ≤ 1000)
    have hcN : (sumV vs).toNat = c := by omega
    refine pl_val _ rfl rfl (val_load [.slice av vs.length capv, .slice ab body.length capb] hT rfl rfl rfl (hp9.range (by rfl))) ?_
    refine au ?_
    refine pl_op rfl rfl (opTo_call (fst := []) (cap := []) rfl rfl rfl rfl (by decide +kernel) ((newBeing_ret (c := c) (hh.keep hk09 hF.stays) (hF.keep hk09) (hic.1.keep0 hk09) hpf (by omega) (by omega) hc48).mono ?_))
    rintro v w10 ⟨b, bcv, br, rfl, hB10⟩
    have hk910 : Keep [] w9 w10 := hB10.kp
    have hkw10 := hk09.tr hk910
    have hgeB : ∀ k ∈ fpB b bcv br, w9.heap.size ≤ k ∧ k < w10.heap.size := fun k hk => hB10.own k hk
    have hB10' := hB10.base hk09 hic.1
    have hy10 := I.keep0 hy4 (hk49.tr hk910)
    have hlt4 : ∀ k ∈ fp, k < w4.heap.size := fun k hk => (I.lt hy4 k hk).2
    have hb10 := hk910.blk hb9 (by simp)
    have hov10 := hov9.keep0 hk910
    have hcv10 := hcv9.keep0 hk910
    have hx8w : w4.heap.size ≤ x8 := by have := (hk5.tr hk7).size; omega
    refine au ?_
    refine rn_ind (fun q σ w' => ∃ (i : Nat) (fp' : List Nat) (z : Lz) (rj : Rws), i ≤ l.length ∧ q = l.length - i ∧ σ = [(2, .slice la l.length lcap), (3, .int .i64 fuel), (9, .pointer (some ⟨y, 0, none⟩)), (12, .pointer (some ⟨x8, 0, none⟩)), (13, .int .i64 U.fault), (14, .pointer (some ⟨b, 0, none⟩)), (15, .int .i64 (badL (l.take i))), (16, .int .i64 (i : Nat))] ∧
      LV vs body inp w3.heap.size w' y fp' z ∧ Bw w w' b (insP vs body) inp bcv (.slice ia inp.length icap) rj z.lf.m z.lf.k z.lf.p ∧ (∀ k ∈ fp', k ∉ fpB b bcv rj) ∧ InvZ vs body inp z (nSum (l.take i)) ∧ z.lf = livesL (insP vs body) inp (l.take i) (lf0 (sumV vs).toNat) ∧
      Blk w' x8 (resC U.code (.slice oa U.out.length ok) (.slice ca U.cells.length ck)) 35 ∧ x8 ∉ fp' ∧ x8 ∉ fpB b bcv rj ∧ LsV w' (.slice oa U.out.length ok) U.out ∧ LsV w' (.slice ca U.cells.length ck) U.cells ∧ NF (.slice oa U.out.length ok) fp' ∧ NF (.slice ca U.cells.length ck) fp' ∧ NF (.slice oa U.out.length ok) (fpB b bcv rj) ∧ NF (.slice ca U.cells.length ck) (fpB b bcv rj) ∧ Keep [] w w')
      l.length _ ?_ ⟨0, fp, _, br, by omega, by omega, rfl, hy10, by rw [hcN]; exact hB10', fun k hk hm => ?_, invZ0 vs body inp, rfl, hb10, fun hm => ?_, fun hm => ?_, hov10, hcv10, n1.nf fun k hk => ?_, n2.nf fun k hk => ?_, ?_, ?_, hkw10⟩ ?_
    · exact ⟨rfl, rfl, rfl, rfl, rfl, rfl, rfl, rfl, trivial⟩
    · have := hlt4 k hk; have := (hgeB k hm).1; have := hk49.size; omega
    · have := hlt4 x8 hm; omega
    · have := (hgeB x8 hm).1; have := hb9.lt; omega
    · have := hlt4 k hk; have := hk5.size; omega
    · have := hlt4 k hk; have := hk5.size; omega
    · exact hov9.nf (fp := []) (fun b q n c he h0 => by simp) fun k hk => .inr (hgeB k hk).1
    · exact hcv9.nf (fp := []) (fun b q n c he h0 => by simp) fun k hk => .inr (hgeB k hk).1
    rintro q σ w11 ih ⟨i, fp11, z, rj, hi11, rfl, rfl, hy11, hB11, hds, hz11, hzl, hb11, hx1, hx2, hov11, hcv11, f1, f2, f3, f4, hk11⟩
    have hns11 := nSum_take_le l i
    have hbl : ∀ k ∈ fpB b bcv rj, k < w11.heap.size := fun k hk => (hB11.own k hk).2
    refine au ?_
    by_cases hlt : i < l.length
    · refine ye ?_
      have hxi : l[i]? = some l[i] := List.getElem?_eq_getElem hlt
      obtain ⟨sb, sq, scap, hv', hra⟩ := (hl.keep0 hk11).at hxi
      cases hv'
      obtain ⟨o1, o2, o3⟩ := hlo l[i] (List.getElem_mem _)
      have hsn := nSum_take hxi
      have hns12 := nSum_take_le l (i + 1)
      have htk : l.take (i + 1) = l.take i ++ [l[i]] := by rw [List.take_add_one, hxi, Option.toList_some]
      have hra2 : ∀ {w' : World}, Keep [] w w' → w'.rangeAt sb (sq + i * 4) (spC l[i]) := fun {w'} hk => by
        obtain ⟨sb', sq', scap', hv3, hra3⟩ := (hl.keep0 hk).at hxi
        cases hv3
        exact hra3
      generalize hse : l[i] = s at hxi hra hra2 o1 o2 o3 hsn htk
      refine au ?_
      refine pl_val _ rfl rfl (val_index i hT rfl rfl rfl rfl rfl hlt w11) ?_
      refine pl_val (.agg (spC s).toArray) rfl rfl (val_load (spC s) hT rfl rfl rfl hra) ?_
      refine pl_op rfl rfl (opTo_call (fst := []) (cap := []) rfl rfl rfl rfl (by decide +kernel) ((I.does s hy11 hz11 (by omega) hpf (by omega) hin o1 o2 o3).mono ?_))
      rintro r w12 ⟨rfl, fp12, hy12, hk12, hf12⟩
      have hk012 := I.low hy11 hk11 hBw hk12
      have hB12 := hB11.keep hk12 (fun x hx hm => hds x hm hx) (fun x hx => Nat.le_trans hBw (I.lt hy11 x hx).1)
      have hz12 := hz11.stepN (nw := nw) s
      rw [← hsn] at hz12
      have hds12 := dis_step hds hbl hf12
      have hb12 := hk12.blk hb11 hx1
      have hov12 := hov11.keepF hk12 f1
      have hcv12 := hcv11.keepF hk12 f2
      have g1 := hov11.nf f1 hf12
      have g2 := hcv11.nf f2 hf12
      have hx12 := notin_step hx1 hb11.lt hf12
      refine au ?_
      refine pl_val _ rfl rfl (val_index i hT rfl rfl rfl rfl rfl hlt w12) ?_
      refine pl_val (.agg (spC s).toArray) rfl rfl (val_load (spC s) hT rfl rfl rfl (hra2 hk012)) ?_
      refine pl_op rfl rfl (opTo_call (fst := []) (cap := []) rfl rfl rfl rfl (by decide +kernel) ((stepFault_ret s w12).mono ?_))
      rintro r w13 ⟨rfl, hk13⟩
      have hk013 := hk012.tr hk13
      refine au ?_
      refine nay ?_
      refine au ?_
      by_cases hf : ¬ spFault s = 0
      · have hz0 : doZS nw (insP vs body) inp s z = (z, 0) := by
          unfold doZS
          rw [if_neg hf]
        rw [hz0] at hy12 hz12 ⊢
        have hzl2 : z.lf = livesL (insP vs body) inp (l.take (i + 1)) (lf0 (sumV vs).toNat) := by
          rw [htk, livesL_snoc, if_neg hf]
          exact hzl
        have hbad := badL_snoc s (l.take i)
        rw [← htk] at hbad
        refine ye ?_
        refine au ?_
        refine nay ?_
        refine au ?_
        refine ye ?_
        refine au ?_
        by_cases hb0 : badL (l.take i) = 0
        · rw [if_pos hb0] at hbad
          refine ye ?_
          refine au ?_
          refine pl_num (((i + 1 : Nat) : Int)) rfl rfl rfl rfl rfl (by simp only [ariP]; omega) ?_
          refine au ?_
          refine rn_sub ?_ (ih (l.length - (i + 1)) _ w13 (by omega) ⟨i + 1, fp12, z, rj, by omega, rfl, rfl, I.keep0 hy12 hk13, hB12.keep0 hk13, hds12, hz12, hzl2, hk13.blk hb12 (by simp), hx12, hx2, hov12.keep0 hk13, hcv12.keep0 hk13, g1, g2, f3, f4, hk013⟩)
          exact ⟨rfl, rfl, rfl, rfl, rfl, rfl, by rw [hbad]; rfl, rfl, trivial⟩
        · rw [if_neg hb0] at hbad
          refine nay ?_
          refine au ?_
          refine pl_num (((i + 1 : Nat) : Int)) rfl rfl rfl rfl rfl (by simp only [ariP]; omega) ?_
          refine au ?_
          refine rn_sub ?_ (ih (l.length - (i + 1)) _ w13 (by omega) ⟨i + 1, fp12, z, rj, by omega, rfl, rfl, I.keep0 hy12 hk13, hB12.keep0 hk13, hds12, hz12, hzl2, hk13.blk hb12 (by simp), hx12, hx2, hov12.keep0 hk13, hcv12.keep0 hk13, g1, g2, f3, f4, hk013⟩)
          exact ⟨rfl, rfl, rfl, rfl, rfl, rfl, by rw [hbad]; rfl, rfl, trivial⟩
      replace hf : spFault s = 0 := by omega
      rw [hf]
      refine nay ?_
      refine au ?_
      refine nay ?_
      refine au ?_
      obtain ⟨_, gI, hgI, hIL⟩ := hz11
      rw [hcN] at hIL
      have hB13 : Bw w w13 b (insSs vs body 0 ++ [haltI]) inp bcv (.slice ia inp.length icap) rj z.lf.m z.lf.k z.lf.p := hB12.keep0 hk13
      have hd1 : (doZS nw (insP vs body) inp s z).1.lf = (doSp (insSs vs body 0 ++ [haltI]) inp s z.lf).1 := by
        unfold doZS
        rw [if_pos hf]
        exact (doZ_lf _ _ _ z).1
      have hd2 : (doZS nw (insP vs body) inp s z).2 = (doSp (insSs vs body 0 ++ [haltI]) inp s z.lf).2 := by
        unfold doZS
        rw [if_pos hf]
        exact (doZ_lf _ _ _ z).2
      refine pl_val _ rfl rfl (val_index i hT rfl rfl rfl rfl rfl hlt w13) ?_
      refine pl_val (.agg (spC s).toArray) rfl rfl (val_load (spC s) hT rfl rfl rfl (hra2 hk013)) ?_
      refine pl_op rfl rfl (opTo_call (fst := []) (cap := []) rfl rfl rfl rfl (by decide +kernel) ((bDo_ret hP hB13 hIL (by omega) (by omega) hc48 s hf).mono ?_))
      rintro v w14 ⟨rfl, rj2, ht14⟩
      rw [← hd1] at ht14
      rw [← hd2]
      have hzl2 : (doZS nw (insP vs body) inp s z).1.lf = livesL (insP vs body) inp (l.take (i + 1)) (lf0 (sumV vs).toNat) := by
        rw [htk, livesL_snoc, if_pos hf, ← hzl]
        exact hd1
      have hbad : badL (l.take (i + 1)) = badL (l.take i) := by
        rw [htk, badL_snoc, hf]
        split
        · rename_i h; exact h.symm
        · rfl
      generalize doZS nw (insP vs body) inp s z = zn at *
      obtain ⟨z2, n2'⟩ := zn
      dsimp only at hy12 hz12 ht14 hzl2 ⊢
      have hy13 := I.keep0 hy12 hk13
      have hfl : ∀ k ∈ fp12, k < w13.heap.size := fun k hk => (I.lt hy13 k hk).2
      have hy14 := I.keep hy13 ht14.2.1 fun k hk hm => hds12 k hm hk
      have hlow : Keep [] w w14 := hk013.trans ht14.2.1 fun k hm => .inr (hB13.own k hm).1
      have hb14 := ht14.2.1.blk (hk13.blk hb12 (by simp)) hx2
      have hov14 := (hov12.keep0 hk13).keepF ht14.2.1 f3
      have hcv14 := (hcv12.keep0 hk13).keepF ht14.2.1 f4
      have f3' := (hov12.keep0 hk13).nf f3 ht14.2.2
      have f4' := (hcv12.keep0 hk13).nf f4 ht14.2.2
      have hx2' := notin_step hx2 (hk13.blk hb12 (by simp)).lt ht14.2.2
      have hds14 : ∀ k ∈ fp12, k ∉ fpB b bcv rj2 := fun k hk hm => by
        rcases ht14.2.2 k hm with h1 | h1
        · exact hds12 k hk h1
        · have := hfl k hk; omega
      obtain ⟨bo, bc, bp⟩ := hz12.bnd hpf (by omega)
      have hst := hz12.state
      refine nay ?_
      refine au ?_
      refine pl_op rfl rfl (opTo_call (fst := []) (cap := []) rfl rfl rfl rfl (by decide +kernel) ((I.now hy14 hz12 (by omega) hpf (by omega)).mono ?_))
      rintro r w15 ⟨⟨ov2, cv2, rfl, hov15, hcv15, _, _⟩, hk15⟩
      have hB15 := ht14.1.keep0 hk15
      refine au ?_
      refine pl_op rfl rfl (opTo_call (fst := []) (cap := []) rfl rfl rfl rfl (by decide +kernel) ((bNow_ret hB15 (by omega)).mono ?_))
      rintro v w16 ⟨rfl, hk16⟩
      have hB16 := hB15.keep0 hk16
      refine pl_op rfl rfl (opTo_call (fst := []) (cap := []) rfl rfl rfl rfl (by decide +kernel) ((sameRes_ret (codeB z2.lf.m z2.lf.p) (hov15.1.keep0 hk16) (hcv15.keep0 hk16) hB16.ro.lies hB16.rc.lies (by omega) (by omega)).mono ?_))
      rintro r w17 ⟨rfl, hk17⟩
      have hk1417 := (hk15.tr hk16).tr hk17
      refine au ?_
      refine pl_num (((i + 1 : Nat) : Int)) rfl rfl rfl rfl rfl (by simp only [ariP]; omega) ?_
      refine au ?_
      refine rn_sub ?_ (ih (l.length - (i + 1)) _ w17 (by omega) ⟨i + 1, fp12, z2, rj2, by omega, rfl, rfl, I.keep0 hy14 hk1417, ht14.1.keep0 hk1417, hds14, hz12, hzl2, hk1417.blk hb14 (by simp), hx12, hx2', hov14.keep0 hk1417, hcv14.keep0 hk1417, g1, g2, f3', f4', hlow.tr hk1417⟩)
      exact ⟨rfl, rfl, rfl, rfl, rfl, rfl, by rw [hbad]; rfl, rfl, trivial⟩
    · refine nay ?_
      rw [List.take_of_length_le (by omega)] at hzl ⊢
      clear ih
      refine au ?_
      refine pl_val _ rfl rfl (val_build _ rfl rfl (built_q1 fuel) w11) ?_
      refine pl_op rfl rfl (opTo_allocN _ rfl zero_q ?_)
      intro w12 x12 hx12 hs12 hk12 hb12
      refine pl_op rfl rfl (opTo_storeN (spC (1, fuel, 0, 0)) rfl rfl rfl rfl size_q hb12 (by simp [spC]) (spC_one _) ?_)
      intro w13 hs13 hk13 hb13
      rw [splice_whole (by rfl)] at hb13
      have hk1113 : Keep [] w11 w13 := hk12.trB hk13 (by omega)
      have hk013 := hk11.tr hk1113
      have hr13 := hk1113.blk hb11 (by simp)
      have ho13 := hov11.keep0 hk1113
      have hc13 := hcv11.keep0 hk1113
      have hB13 : Bw w w13 b (insSs vs body 0 ++ [haltI]) inp bcv (.slice ia inp.length icap) rj z.lf.m z.lf.k z.lf.p := hB11.keep0 hk1113
      refine au ?_
      by_cases hb0 : badL l = 0
      · refine ye ?_
        refine au ?_
        refine pl_val (.agg (spC (1, fuel, 0, 0)).toArray) rfl rfl (val_load (spC (1, fuel, 0, 0)) hT rfl rfl rfl (hb13.range (by rfl))) ?_
        refine pl_op rfl rfl (opTo_call (fst := []) (cap := []) rfl rfl rfl rfl (by decide +kernel) ((stepFault_ret (1, fuel, 0, 0) w13).mono ?_))
        rintro r w14 ⟨rfl, hk14⟩
        have hr14 := hk14.blk hr13 (by simp)
        have ho14 := ho13.keep0 hk14
        have hc14 := hc13.keep0 hk14
        have hb14 := hk14.blk hb13 (by simp)
        have hB14 := hB13.keep0 hk14
        have hk014 := hk013.tr hk14
        have hsf : spFault (1, fuel, 0, 0) = if fuel < 0 ∨ 3000 < fuel then 1 else 0 := by
          have e : spFault (1, fuel, 0, 0) = if (1 : Int) < 1 ∨ (3 : Int) < 1 then 2 else if (1 : Int) ≠ 2 ∧ (fuel < 0 ∨ 3000 < fuel) ∨ (1 : Int) = 3 ∧ (0 : Int) < 0 then 1 else 0 := rfl
          rw [e, if_neg (by decide)]
          by_cases hN : fuel < 0 ∨ 3000 < fuel
          · rw [if_pos hN, if_pos (.inl ⟨by decide, hN⟩)]
          · rw [if_neg hN, if_neg]
            rintro (⟨_, h3⟩ | ⟨h3, _⟩)
            · exact hN h3
            · cases h3
        refine au ?_
        by_cases hfu : fuel < 0 ∨ 3000 < fuel
        · rw [if_pos hfu] at hsf
          rw [hsf]
          have hU : U = ⟨0, [], [], 0, 1⟩ := by
            rw [hUe]
            unfold runF
            rw [if_pos (by omega), if_pos hc0, if_pos hb0, if_neg (by omega)]
          have u5 : U.fault = 1 := by rw [hU]
          have u1 : U.code = 0 := by rw [hU]
          have u2 : U.out = [] := by rw [hU]
          have u3 : U.cells = [] := by rw [hU]
          rw [u1, u2, u3] at hr14
          have hov13 : LsV w14 (.slice oa ([] : List Int).length ok) [] := by rw [u2] at ho14; exact ho14
          have hcv13 : LsV w14 (.slice ca ([] : List Int).length ck) [] := by rw [u3] at hc14; exact hc14
          refine ye ?_
          refine au ?_
          refine ye ?_
          refine au ?_
          refine pl_val _ rfl rfl (val_load (resC 0 (.slice oa ([] : List Int).length ok) (.slice ca ([] : List Int).length ck)) hT rfl rfl rfl (hr14.range (by rfl))) ?_
          refine pl_val _ rfl rfl (val_build _ rfl rfl built_q0 w14) ?_
          refine pl_op rfl rfl (opTo_call (fst := []) (cap := []) rfl rfl rfl rfl (by decide +kernel) ((sameRes_ret 0 hov13 hcv13 (ls_q _) (ls_q _) (by decide) (by decide)).mono ?_))
          rintro r w15 ⟨rfl, hk15⟩
          refine au ?_
          exact rn_ret Tryz.func3 (.inl ⟨_, rfl, rfl⟩) ⟨rfl, hk014.tr hk15⟩
        · rw [if_neg hfu] at hsf
          rw [hsf]
          obtain ⟨n, rfl⟩ : ∃ n : Nat, fuel = (n : Nat) := ⟨fuel.toNat, by omega⟩
          obtain ⟨_, gI, hgI, hIL⟩ := hz11
          rw [hcN] at hIL
          have hdo : doSp (insSs vs body 0 ++ [haltI]) inp (1, ((n : Nat) : Int), 0, 0) z.lf = runL (insP vs body) inp n z.lf := rfl
          have hU : U = ⟨codeB (runL (insP vs body) inp n z.lf).1.m (runL (insP vs body) inp n z.lf).1.p, (runL (insP vs body) inp n z.lf).1.p.1, (runL (insP vs body) inp n z.lf).1.m.cells, 0, 0⟩ := by
            rw [hUe]
            unfold runF
            rw [if_pos (by omega), if_pos hc0, if_pos hb0, if_pos (by omega), Int.toNat_natCast, ← hzl]
          refine nay ?_
          refine au ?_
          refine pl_val (.agg (spC (1, ((n : Nat) : Int), 0, 0)).toArray) rfl rfl (val_load (spC (1, ((n : Nat) : Int), 0, 0)) hT rfl rfl rfl (hb14.range (by rfl))) ?_
          refine pl_op rfl rfl (opTo_call (fst := []) (cap := []) rfl rfl rfl rfl (by decide +kernel) ((bDo_ret hP hB14 hIL (by omega) (by omega) hc48 (1, ((n : Nat) : Int), 0, 0) hsf).mono ?_))
          rintro v w15 ⟨rfl, rj2, ht15⟩
          rw [hdo] at ht15
          obtain ⟨g2, _, hg2, hI2⟩ := hIL.run n
          have hrl := runL_le (insP vs body) inp n z.lf
          have hI2 : InvL (insSs vs body 0 ++ [haltI]) inp c (runL (insP vs body) inp n z.lf).1 g2 := hI2
          obtain ⟨i1, i2, i3, i4, i5, i6, i7⟩ := hI2.fit hP
          have hcl := i1.cells
          generalize (runL (insP vs body) inp n z.lf).1 = xe at *
          have u1 : U.code = codeB xe.m xe.p := by rw [hU]
          have u2 : U.out = xe.p.1 := by rw [hU]
          have u3 : U.cells = xe.m.cells := by rw [hU]
          have u5 : U.fault = 0 := by rw [hU]
          have hk015 : Keep [] w w15 := hk014.trans ht15.2.1 fun k hm => .inr (hB14.own k hm).1
          have hr15 := ht15.2.1.blk hr14 hx2
          have ho15 := ho14.keepF ht15.2.1 f3
          have hc15 := hc14.keepF ht15.2.1 f4
          refine au ?_
          refine rn_draw (fun w' => Keep [] w15 w') [] hMix ?_
          have hT0 : Keep [] w15 w15.drew := (Keep.refl _ _).drew
          generalize w15.drew = w16 at *
          refine tk 0 ?_
          refine dye 1 ?_
          refine tk 2 ?_
          refine dr_val 3 (.agg (resC U.code (.slice oa U.out.length ok) (.slice ca U.cells.length ck)).toArray) rfl (by decide +kernel) rfl rfl (fun w9 hS9 => val_load (resC U.code (.slice oa U.out.length ok) (.slice ca U.cells.length ck)) hT rfl rfl rfl ((hS9.blk hr15 (by simp)).range (by rfl))) hT0 ?_
          refine tk 4 ?_
          have hB16 := ht15.1.keep0 hT0
          refine dr_op 5 rfl (by decide +kernel) rfl rfl (opTo_call (fst := []) (cap := []) rfl rfl rfl rfl (by decide +kernel) ((bNow_ret hB16 (by omega)).mono ?_))
          rintro v w17 ⟨rfl, hk17⟩
          have hT17 := hT0.tr hk17
          refine ⟨fun _ => hT17, ?_⟩
          have hB17 := hB16.keep0 hk17
          have ho17 := ho15.keep0 hT17
          have hc17 := hc15.keep0 hT17
          have hro := hB17.ro.lies
          have hrc := hB17.rc.lies
          rw [← u2] at hro
          rw [← u3] at hrc
          rw [← u1]
          refine dr_op 6 rfl (by decide +kernel) rfl rfl (opTo_call (fst := []) (cap := []) rfl rfl rfl rfl (by decide +kernel) ((sameRes_ret U.code ho17 hc17 hro hrc (by rw [u2]; omega) (by rw [u3]; omega)).mono ?_))
          rintro r w18 ⟨rfl, hk18⟩
          have hT18 := hT17.tr hk18
          refine ⟨fun _ => hT18, ?_⟩
          refine tk 7 ?_
          refine tk 8 ?_
          refine dr_done (by decide +kernel) ?_
          refine au ?_
          exact rn_ret Tryz.func3 (.inl ⟨_, rfl, rfl⟩) ⟨rfl, hk015.tr hT18⟩
      · have hU : U = ⟨0, [], [], 0, badL l⟩ := by
          rw [hUe]
          unfold runF
          rw [if_pos (by omega), if_pos hc0, if_neg hb0]
        have u5 : U.fault = badL l := by rw [hU]
        refine nay ?_
        refine au ?_
        have u1 : U.code = 0 := by rw [hU]
        have u2 : U.out = [] := by rw [hU]
        have u3 : U.cells = [] := by rw [hU]
        rw [u1, u2, u3] at hr13
        have hov13 : LsV w13 (.slice oa ([] : List Int).length ok) [] := by rw [u2] at ho13; exact ho13
        have hcv13 : LsV w13 (.slice ca ([] : List Int).length ck) [] := by rw [u3] at hc13; exact hc13
        refine ye ?_
        refine au ?_
        refine ye ?_
        refine au ?_
        refine pl_val _ rfl rfl (val_load (resC 0 (.slice oa ([] : List Int).length ok) (.slice ca ([] : List Int).length ck)) hT rfl rfl rfl (hr13.range (by rfl))) ?_
        refine pl_val _ rfl rfl (val_build _ rfl rfl built_q0 w13) ?_
        refine pl_op rfl rfl (opTo_call (fst := []) (cap := []) rfl rfl rfl rfl (by decide +kernel) ((sameRes_ret 0 hov13 hcv13 (ls_q _) (ls_q _) (by decide) (by decide)).mono ?_))
        rintro r w15 ⟨rfl, hk15⟩
        refine au ?_
        exact rn_ret Tryz.func3 (.inl ⟨_, rfl, rfl⟩) ⟨rfl, hk013.tr hk15⟩
end E
end Go.Proofs.YtmplkogkphmmjafGreat

/- Lists of numbers, as an argument of a law is read. -/
namespace Go.Proofs.YtmplkogkphmmjafGreat
set_option maxRecDepth 20000
set_option maxHeartbeats 4000000
namespace E
open Go.Proofs

/-- A number of 64 bits. -/
abbrev Lg64 : Type := Int
theorem int_lt {n : Int} (h : (Lit.int .i64 n).wf = true) : n < 9223372036854775808 := by
  simp only [Lit.wf, Bool.and_eq_true, decide_eq_true_eq] at h
  have h2 : n ≤ 9223372036854775807 := h.2
  omega
def ArgI (_ : Nat) (w : World) (v : Value) (l : List Int) : Prop := InpV w v l
theorem flat_lgs (l : List Int) : l.flatMap (fun n => [Value.int .i64 n]) = lgs l := by
  induction l with
  | nil => rfl
  | cons x r ih => rw [List.flatMap_cons, ih]; rfl
theorem argI_of {H : Type} {enc : TypeId × Value → H} {w : World} {v : Value} {d : DataW H} {ps : List MemPlace} (h : DataW.Trod enc Tryz.prog w 0 (fun _ => true) true 26 v d ps) (hv : v.cells = #[v]) : ∃ l, ArgI w.heap.size w v l := by
  obtain ⟨fuel, hf⟩ := h
  obtain ⟨a, cap, L, hcs, hr, _⟩ := open_list (fun n : Int => [Value.int .i64 n]) (fun _ => True) 1 (by decide) Tryz.underlying26 (by decide +kernel) (fun s _ => rfl) (fun n cs x h => by
    obtain ⟨z, hz, _⟩ := trod_int1 Tryz.underlying2 h
    exact ⟨z, hz, trivial⟩) hf
  rw [hv] at hcs
  simp at hcs
  refine ⟨L, a, cap, hcs, fun h0 => ?_⟩
  obtain ⟨b, q, h1, h2, h3⟩ := hr (by intro e; rw [e] at h0; simp at h0)
  rw [flat_lgs] at h3
  exact ⟨b, q, h1, h2, h3⟩
/-- The same, and it has as much room as it has numbers; so many of them are no more than memory. -/
def ArgC (_ : Nat) (w : World) (v : Value) (l : List Int) : Prop := InpV w v l ∧ ∀ a n cap, v = .slice a n cap → n ≤ cap
theorem argC_of {H : Type} {enc : TypeId × Value → H} {w : World} {v : Value} {d : DataW H} {ps : List MemPlace} (h : DataW.Trod enc Tryz.prog w 0 (fun _ => true) true 26 v d ps) (hv : v.cells = #[v]) : ∃ l, ArgC w.heap.size w v l := by
  obtain ⟨l, hl⟩ := argI_of h hv
  refine ⟨l, hl, fun a n cap he => ?_⟩
  subst he
  obtain ⟨fuel, hf⟩ := h
  rcases Go.Deep.open_slice Tryz.underlying26 hf with ⟨hcs, _⟩ | ⟨a', len, cap', m, n', D, Pl, hcs, _, hl', _⟩
  · rw [hv] at hcs
    simp at hcs
    omega
  · rw [hv] at hcs
    simp at hcs
    omega
end E
end Go.Proofs.YtmplkogkphmmjafGreat

/- Steps and masks, as an argument of a law is read; the laws of package life as they are handed what was read. -/
namespace Go.Proofs.YtmplkogkphmmjafGreat
set_option maxRecDepth 20000
set_option maxHeartbeats 4000000
namespace E
open Go.Proofs

theorem u64_nat {n : Int} (h : (Lit.int .u64 n).wf = true) : ∃ k : Nat, n = (k : Nat) ∧ k < 18446744073709551616 := by
  simp only [Lit.wf, Bool.and_eq_true, decide_eq_true_eq] at h
  have h1 : (0 : Int) ≤ n := h.1
  have h2 : n ≤ 18446744073709551615 := h.2
  exact ⟨n.toNat, by omega, by omega⟩
def ArgSp (_ : Nat) (w : World) (v : Value) (l : List Sp) : Prop := SpV w v l ∧ ∀ s ∈ l, SpOk s
section
variable {H : Type} {enc : TypeId × Value → H} {w : World} {base : Nat} {spare : Nat → Bool} {held : Bool} {fuel : Nat} {cs : List Value} {x : DataW H × List MemPlace}
theorem trod_sp (h : DataW.trod enc Tryz.prog w base spare held fuel 45 cs = some x) : ∃ s : Sp, cs = spC s ∧ SpOk s := by
  obtain ⟨xs, n, _, _, hl, hlen, hf⟩ := DataW.trod_struct Tryz.underlying45 h
  have c : Tryz.prog.cellsOf 45 = 4 := by decide +kernel
  have c3 : Tryz.prog.cellsOf 3 = 1 := by decide +kernel
  have c33 : Tryz.prog.cellsOf 43 = 1 := by decide +kernel
  rw [c] at hl
  have f0 : DataW.trod enc Tryz.prog w base spare held n 3 ((cs.drop 0).take (Tryz.prog.cellsOf 3)) = xs[0]? := hf 0 _ rfl
  have f1 : DataW.trod enc Tryz.prog w base spare held n 3 ((cs.drop 1).take (Tryz.prog.cellsOf 3)) = xs[1]? := hf 1 _ rfl
  have f2 : DataW.trod enc Tryz.prog w base spare held n 3 ((cs.drop 2).take (Tryz.prog.cellsOf 3)) = xs[2]? := hf 2 _ rfl
  have f3 : DataW.trod enc Tryz.prog w base spare held n 43 ((cs.drop 3).take (Tryz.prog.cellsOf 43)) = xs[3]? := hf 3 _ rfl
  have hx : ∀ i, i < 4 → ∃ y, xs[i]? = some y := fun i hi => ⟨xs[i]'(by rw [hlen]; exact hi), List.getElem?_eq_getElem _⟩
  obtain ⟨y0, e0⟩ := hx 0 (by decide)
  obtain ⟨y1, e1⟩ := hx 1 (by decide)
  obtain ⟨y2, e2⟩ := hx 2 (by decide)
  obtain ⟨y3, e3⟩ := hx 3 (by decide)
  rw [e0, c3] at f0
  rw [e1, c3] at f1
  rw [e2, c3] at f2
  rw [e3, c33] at f3
  obtain ⟨d, hd, _⟩ := trod_int1 Tryz.underlying3 f0
  obtain ⟨a, ha, wa⟩ := trod_int1 Tryz.underlying3 f1
  obtain ⟨k, hk, wk⟩ := trod_int1 Tryz.underlying3 f2
  obtain ⟨m, hm, wm⟩ := trod_int1 Tryz.underlying43 f3
  obtain ⟨m', rfl, hm'⟩ := u64_nat wm
  refine ⟨(d, a, k, m'), ?_, int_lt wa, int_lt wk, hm'⟩
  have hsplit : cs = (cs.drop 0).take 1 ++ ((cs.drop 1).take 1 ++ ((cs.drop 2).take 1 ++ (cs.drop 3).take 1)) := by
    match cs, hl with
    | [_, _, _, _], _ => rfl
  rw [hsplit, hd, ha, hk, hm]
  rfl
end
theorem argSp_of {H : Type} {enc : TypeId × Value → H} {w : World} {v : Value} {d : DataW H} {ps : List MemPlace} (h : DataW.Trod enc Tryz.prog w 0 (fun _ => true) true 27 v d ps) (hv : v.cells = #[v]) : ∃ l, ArgSp w.heap.size w v l := by
  obtain ⟨fuel, hf⟩ := h
  obtain ⟨a, cap, L, hcs, hr, hq⟩ := open_list spC SpOk 4 (by decide) Tryz.underlying27 (by decide +kernel) (fun s _ => spC_length s) (fun n cs x h => trod_sp h) hf
  rw [hv] at hcs
  simp at hcs
  exact ⟨L, ⟨a, cap, hcs, fun h0 => hr (by intro e; rw [e] at h0; simp at h0)⟩, hq⟩
end E
end Go.Proofs.YtmplkogkphmmjafGreat

/- The law LifeDoes, as it is handed what was read of its arguments. -/
namespace Go.Proofs.YtmplkogkphmmjafGreat
set_option maxRecDepth 20000
set_option maxHeartbeats 4000000
namespace E
open Go.Proofs

theorem lifeDoes_all {nw : List Is → List Int → Md → List Int → List Int} {LV : List VarT → List ST → List Int → Nat → World → Nat → List Nat → Lz → Prop} (I : LfI nw LV) {w : World} {B B2 : Nat} {x iv lv : Value} {vs : List VarT} {body : List ST} {inp : List Int} {l : List Sp} (h : ProgV (fun b => b < w.heap.size) w x vs body) (hi : ArgC B w iv inp) (hs : ArgSp B2 w lv l) (fuel : Int) : Ret Tryz.prog 3 [x, iv, lv, .int .i64 fuel] w fun r w' => r = .bool true ∧ Keep [] w w' := lifeDoes_ret I h hi hs.1 hs.2 fuel
end E
end Go.Proofs.YtmplkogkphmmjafGreat

/- The landed printer, as it lies in memory; contracts of its Put, List, Code; slices.Clone of numbers. -/
namespace Go.Proofs.YtmplkogkphmmjafGreat
set_option maxRecDepth 20000
set_option maxHeartbeats 4000000
namespace E
open Go.Proofs

section
variable {P : Program} {T : Tbl} {n : Nat} {σ : Env} {o : Oper}
theorem val_isNil {t t' : TypeId} {x : Operand} {len cap sz : Nat} (hT : T.check P = true) (ho : o.op = .binOp .eql t x (.const (.slice none 0 0)) t') (hx : ev σ x = some (.slice none len cap)) (ht : find T.sl t = some sz) (w : World) : Val P n σ o w (.bool true) := by
  intro a ha
  have hs := Tbl.sl_ok hT ht
  unfold slOk at hs
  split at hs
  · rename_i e hu
    have he : ∀ d, (Op.equalIn (d + 1) t (.slice none len cap) (.slice none 0 0)).run P w = .ok true w := fun d => by
      simp [Op.equalIn, run_underlying hu]
    have he' : (Op.equal t (.slice none len cap) (.slice none 0 0)).run P w = .ok true w := he 9999
    have hc : a.eval (.const (.slice none 0 0)) = .slice none 0 0 := rfl
    simp [execOp, ho, ha.eval hx, hc, eqGuard, binOp, he']
  · cases hs
theorem mval_min {t : TypeId} {x y : Operand} {kk : IntKind} {a b : Int} (r : Int) (ho : o.op = .call { callee := .builtin .min, args := #[x, y], argTypes := #[t, t] }) (hx : ev σ x = some (.int kk a)) (hy : ev σ y = some (.int kk b)) (hr : (if b < a then b else a) = r) (w : World) : Val P n σ o w (.int kk r) := by
  intro ac ha
  simp [execOp, ho, resolve, invoke, builtin, ha.eval hx, ha.eval hy, Builtin.min_, Builtin.min2, hr]
theorem mval_max {t : TypeId} {x y : Operand} {kk : IntKind} {a b : Int} (r : Int) (ho : o.op = .call { callee := .builtin .max, args := #[x, y], argTypes := #[t, t] }) (hx : ev σ x = some (.int kk a)) (hy : ev σ y = some (.int kk b)) (hr : (if b > a then b else a) = r) (w : World) : Val P n σ o w (.int kk r) := by
  intro ac ha
  simp only [gt_iff_lt] at hr
  simp [execOp, ho, resolve, invoke, builtin, ha.eval hx, ha.eval hy, Builtin.max_, Builtin.max2, hr]
end

theorem cloneL_ret {w : World} {v : Value} {l : List Int} (h : LsV w v l) (hl : l.length ≤ 1000000) : Ret Tryz.prog 25 [v] w fun r w' => RowL w' w.heap.size r l ∧ Keep [] w w' := by
  obtain ⟨a, cap, rfl, h2⟩ := h
  refine ret_of 8 Tryz.func25 rfl rfl (by simp) ?_
  cases a with
  | none =>
    have h0 : l = [] := List.eq_nil_of_length_eq_zero (by
      rcases Nat.eq_zero_or_pos l.length with h | h
      · exact h
      · obtain ⟨_, _, e, _⟩ := h2 h
        cases e)
    subst h0
    refine au ?_
    refine pl_val (.bool true) rfl rfl (val_isNil hT rfl rfl rfl w) ?_
    refine au ?_
    exact rn_ret Tryz.func25 (.inl ⟨_, rfl, rfl⟩) ⟨RowL.nil _ _, Keep.refl _ _⟩
  | some ad =>
    refine au ?_
    refine pl_val (.bool false) rfl rfl (val_notNil hT rfl rfl rfl w) ?_
    refine au ?_
    refine pl_op rfl rfl (opTo_sliceN tLg [] rfl rfl (by kernel_rfl) ?_)
    intro w1 g hg hs1 hk1 hb1
    have hown : Own w1 w.heap.size tLg 1 (.slice (some ⟨g, 0, none⟩) 0 0) 0 [] := ⟨rfl, .inr ⟨g, 0, [], rfl, by omega, hb1, Nat.le_refl _, by simp, rfl⟩⟩
    refine au ?_
    by_cases h0 : 0 < l.length
    · obtain ⟨b, q, e, hb, hr⟩ := h2 h0
      cases e
      refine pl_op rfl rfl (opTo_app w.heap.size tLg 1 8 [] (lgs l) rfl rfl rfl app_lg hown (range_keep hr hk1 hb (by simp)) (by rw [lgs_length]; omega) (lgs_one l) h0 (by unfold maxLen; omega) (by omega) hk1.size ?_)
      intro g2 c2 w2 hown2 hcase
      rw [Nat.zero_add, List.nil_append] at hown2
      rw [Nat.zero_add]
      refine au ?_
      refine rn_ret Tryz.func25 (.inl ⟨_, rfl, rfl⟩) ⟨hown2, ?_⟩
      rcases hcase with ⟨h3, _, h5⟩ | ⟨_, h4, _⟩
      · refine hk1.trans h5 fun k hk => .inr ?_
        have h3 : some g = some g2 := h3
        injection h3 with h3
        rw [List.mem_singleton.1 hk]
        omega
      · exact hk1.tr h4
    · have h0 : l = [] := List.eq_nil_of_length_eq_zero (by omega)
      subst h0
      refine pl_op rfl rfl (opTo_appZ (ln := 0) rfl rfl rfl app_lg hown ?_)
      refine au ?_
      exact rn_ret Tryz.func25 (.inl ⟨_, rfl, rfl⟩) ⟨hown, hk1⟩

/-! ### The printer -/
def prC (v : Value) (p : Pr) : List Value := [v, .int .i64 (if p.2 then 15 else 0)]
def pz0 : List Value := [.slice none 0 0, .int .i64 0]
theorem nePL : tPr ≠ tLg := by decide
/-- A printer at q, what was printed in the row v. -/
structure Pv (R : Nat → Prop) (B : Nat) (w : World) (q : Nat) (v : Value) (p : Pr) : Prop where
  blk : Blk w q (prC v p) tPr
  row : RowL w B v p.1
  ge : B ≤ q
  ro : ∀ k, R k → k < w.heap.size
  nr : ∀ k ∈ q :: obs v, ¬ R k
def PVm (R : Nat → Prop) (B : Nat) (w : World) (q : Nat) (fq : List Nat) (p : Pr) : Prop := ∃ v, fq = q :: obs v ∧ Pv R B w q v p
section
variable {R : Nat → Prop} {B : Nat} {w w' : World} {q : Nat} {fq fp2 : List Nat} {p : Pr} {v : Value}
theorem Pv.lt (h : Pv R B w q v p) : ∀ k ∈ q :: obs v, B ≤ k ∧ k < w.heap.size ∧ ¬ R k := fun k hk => by
  refine ⟨?_, ?_, h.nr k hk⟩
  · rcases List.mem_cons.1 hk with rfl | hk
    · exact h.ge
    · exact (h.row.lt k hk).1
  · rcases List.mem_cons.1 hk with rfl | hk
    · exact h.blk.lt
    · exact (h.row.lt k hk).2
theorem Pv.keep (h : Pv R B w q v p) (hk : Keep fp2 w w') (hn : ∀ k ∈ fp2, k ∉ q :: obs v) : Pv R B w' q v p :=
  ⟨hk.blk h.blk fun hm => hn q hm (by simp), h.row.keep hk fun k hk hm => hn k hm (by simp [hk]), h.ge, fun k hR => Nat.lt_of_lt_of_le (h.ro k hR) hk.size, h.nr⟩
theorem Pv.keep0 (h : Pv R B w q v p) (hk : Keep [] w w') : Pv R B w' q v p := h.keep hk fun k hk => by cases hk
theorem pv_lt (h : PVm R B w q fq p) : ∀ k ∈ fq, B ≤ k ∧ k < w.heap.size ∧ ¬ R k := by
  obtain ⟨v, rfl, h⟩ := h
  exact h.lt
theorem pv_keep (h : PVm R B w q fq p) (hk : Keep fp2 w w') (hn : ∀ k ∈ fp2, ¬ R k ∧ k ∉ fq) : PVm R B w' q fq p := by
  obtain ⟨v, rfl, h⟩ := h
  exact ⟨v, rfl, h.keep hk fun k hk => (hn k hk).2⟩
theorem pv_new (h : Blk w q pz0 tPr) (hB : B ≤ q) (hR : ¬ R q) (hro : ∀ k, R k → k < w.heap.size) : PVm R B w q [q] ([], false) :=
  ⟨.slice none 0 0, rfl, h, RowL.nil _ _, hB, hro, fun k hk => by
    have hk : k = q := by simpa [obs, Value.ownBlock] using hk
    rw [hk]
    exact hR⟩

theorem pput_ret (h : PVm R B w q fq p) (hl : p.1.length ≤ 400000) (k n : Int) : Ret Tryz.prog 135 [.pointer (some ⟨q, 0, none⟩), .int .i64 k, .int .i64 n] w fun r w' => r = .tuple #[] ∧ ∃ fq', PVm R B w' q fq' (putI p k n) ∧ Keep fq w w' ∧ ∀ k ∈ fq', k ∈ fq ∨ w.heap.size ≤ k := by
  obtain ⟨v, rfl, h⟩ := h
  obtain ⟨a, cap, rfl⟩ := h.row.form
  refine ret_of 48 Tryz.func135 rfl rfl (by simp) ?_
  refine au ?_
  refine pl_val _ rfl rfl (val_load1 hT rfl rfl rfl (h.blk.cell rfl)) ?_
  refine au ?_
  by_cases he : k = (p.1.length : Nat)
  · refine ye ?_
    refine au ?_
    refine pl_val _ rfl rfl (val_load1 hT rfl rfl rfl (h.blk.cell rfl)) ?_
    refine au ?_
    refine pl_op rfl rfl (opTo_sliceN tLg [.int .i64 n] rfl rfl (slice_lg n) ?_)
    intro w1 g hg hs1 hk1 hb1
    have h1 := h.keep0 hk1
    have hBw : B ≤ w1.heap.size := Nat.le_trans h1.ge (Nat.le_of_lt h1.blk.lt)
    refine pl_op rfl rfl (opTo_app B tLg 1 8 (lgs p.1) [.int .i64 n] rfl rfl rfl app_lg h1.row (hb1.range rfl) rfl (one_v rfl) (by decide) (by unfold maxLen; omega) (by omega) hBw ?_)
    intro g2 cap2 w2 hown2 hcase
    have hrow2 : RowL w2 B (.slice (some ⟨g2, 0, none⟩) (p.1.length + 1) cap2) (p.1 ++ [n]) := by
      have e1 : (p.1 ++ [n]).length = p.1.length + 1 := by simp
      have e2 : lgs (p.1 ++ [n]) = lgs p.1 ++ [.int .i64 n] := by rw [lgs_app]; rfl
      unfold RowL
      rw [e1, e2]
      exact hown2
    have hk2 : Keep (obs (.slice a p.1.length cap)) w1 w2 := by
      rcases hcase with ⟨h3, _, h4⟩ | ⟨_, h4, _⟩
      · rw [obs, h3]; exact h4
      · exact h4.of0
    have hob : ∀ x ∈ obs (.slice (some ⟨g2, 0, none⟩) (p.1.length + 1) cap2), x ∈ obs (.slice a p.1.length cap) ∨ w.heap.size ≤ x := fun x hx => by
      have hx : x = g2 := by simpa [obs, Value.ownBlock] using hx
      subst hx
      rcases hcase with ⟨h3, _, _⟩ | ⟨h3, _, _⟩
      · exact .inl (mem_obs.2 h3)
      · exact .inr (by omega)
    have hbk2 := hk2.blk h1.blk fun hm => h1.row.ne h1.blk nePL q hm (by simp)
    refine au ?_
    refine pl_op rfl rfl (opTo_storeN [.slice (some ⟨g2, 0, none⟩) (p.1.length + 1) cap2] rfl rfl rfl rfl size_ls hbk2 (by simp [prC]) (one_v rfl) ?_)
    intro w3 hs3 hk3 hb3
    refine au ?_
    refine rn_end Tryz.func135 (.inr (.inl ⟨rfl, rfl⟩)) ⟨rfl, q :: obs (.slice (some ⟨g2, 0, none⟩) (p.1.length + 1) cap2), ⟨_, rfl, ?_, ?_, h.ge, ?_, ?_⟩, ?_, ?_⟩
    · unfold putI
      rw [if_pos he]
      exact hb3
    · unfold putI
      rw [if_pos he]
      exact hrow2.keep hk3 (hrow2.ne hbk2 nePL)
    · intro k hR
      have := h.ro k hR
      have := hk1.size
      have := hk2.size
      omega
    · intro x hx hR
      rcases List.mem_cons.1 hx with rfl | hx
      · exact h.nr _ (by simp) hR
      · rcases hob x hx with h4 | h4
        · exact h.nr _ (by simp [h4]) hR
        · have := h.ro x hR; omega
    · refine (hk1.of0.trans hk2 fun x hx => .inl (by simp [hx])).trans hk3 fun x hx => .inl ?_
      rw [List.mem_singleton.1 hx]
      simp
    · intro x hx
      rcases List.mem_cons.1 hx with rfl | hx
      · exact .inl (by simp)
      · rcases hob x hx with h4 | h4
        · exact .inl (by simp [h4])
        · exact .inr h4
  · refine nay ?_
    have bad : ∀ {w3 : World}, ¬ (0 ≤ k ∧ p.1[k.toNat]? = some n) → w3.heap.size = w.heap.size → Keep [q] w w3 → Blk w3 q (splice (prC (.slice a p.1.length cap) p) 1 [.int .i64 15]) tPr → ∃ fq', PVm R B w3 q fq' (putI p k n) ∧ Keep (q :: obs (.slice a p.1.length cap)) w w3 ∧ ∀ x ∈ fq', x ∈ q :: obs (.slice a p.1.length cap) ∨ w.heap.size ≤ x := fun {w3} hc hs3 hk3 hb3 => by
      refine ⟨_, ⟨.slice a p.1.length cap, rfl, ?_, ?_, h.ge, ?_, h.nr⟩, ?_, fun x hx => .inl hx⟩
      · unfold putI
        rw [if_neg he, if_neg hc]
        exact hb3
      · unfold putI
        rw [if_neg he, if_neg hc]
        exact h.row.keep hk3 (h.row.ne h.blk nePL)
      · intro x hR
        rw [hs3]
        exact h.ro x hR
      · exact hk3.mono fun x hx => .inl (by rw [List.mem_singleton.1 hx]; simp)
    refine au ?_
    by_cases h0 : k < 0
    · refine ye ?_
      refine au ?_
      refine pl_op rfl rfl (opTo_storeN [.int .i64 15] rfl rfl rfl rfl size_in h.blk (by simp [prC]) (one_in _) ?_)
      intro w3 hs3 hk3 hb3
      refine au ?_
      exact rn_end Tryz.func135 (.inr (.inl ⟨rfl, rfl⟩)) ⟨rfl, bad (fun hc => by omega) hs3 hk3 hb3⟩
    · refine nay ?_
      refine au ?_
      by_cases h1 : k > (p.1.length : Nat)
      · refine ye ?_
        refine au ?_
        refine pl_op rfl rfl (opTo_storeN [.int .i64 15] rfl rfl rfl rfl size_in h.blk (by simp [prC]) (one_in _) ?_)
        intro w3 hs3 hk3 hb3
        refine au ?_
        exact rn_end Tryz.func135 (.inr (.inl ⟨rfl, rfl⟩)) ⟨rfl, bad (fun hc => by have := (List.getElem?_eq_some_iff.1 hc.2).1; omega) hs3 hk3 hb3⟩
      · refine nay ?_
        refine au ?_
        refine pl_val _ rfl rfl (val_load1 hT rfl rfl rfl (h.blk.cell rfl)) ?_
        obtain ⟨j, rfl⟩ : ∃ j : Nat, k = (j : Nat) := ⟨k.toNat, by omega⟩
        have hj : j < p.1.length := by omega
        obtain ⟨x, hxe⟩ : ∃ x, x = p.1[j] := ⟨_, rfl⟩
        have hx : p.1[j]? = some x := by rw [List.getElem?_eq_getElem hj, hxe]
        obtain ⟨g, cap', hv, hc⟩ := h.row.at hx
        cases hv
        refine au ?_
        refine pl_val _ rfl rfl (val_index j hT rfl rfl rfl rfl rfl hj w) ?_
        refine pl_val _ rfl rfl (val_load1 hT rfl rfl rfl ((by rw [Nat.zero_add, Nat.mul_one]; exact hc))) ?_
        refine au ?_
        by_cases hxn : x = n
        · refine nay ?_
          refine au ?_
          refine rn_end Tryz.func135 (.inr (.inl ⟨rfl, rfl⟩)) ⟨rfl, _, ⟨_, rfl, ?_⟩, Keep.refl _ _, fun x hx => .inl hx⟩
          unfold putI
          rw [if_neg he, if_pos ⟨by omega, by rw [Int.toNat_natCast, hx, hxn]⟩]
          exact h
        · refine ye ?_
          refine au ?_
          refine pl_op rfl rfl (opTo_storeN [.int .i64 15] rfl rfl rfl rfl size_in h.blk (by simp [prC]) (one_in _) ?_)
          intro w3 hs3 hk3 hb3
          refine au ?_
          exact rn_end Tryz.func135 (.inr (.inl ⟨rfl, rfl⟩)) ⟨rfl, bad (fun hc => by rw [Int.toNat_natCast, hx] at hc; exact hxn (Option.some.inj hc.2)) hs3 hk3 hb3⟩

theorem plist_ret (h : PVm R B w q fq p) (hl : p.1.length ≤ 400000) : Ret Tryz.prog 68 [.pointer (some ⟨q, 0, none⟩)] w fun r w' => RowL w' w.heap.size r p.1 ∧ Keep [] w w' := by
  obtain ⟨v, rfl, h⟩ := h
  obtain ⟨a, cap, rfl⟩ := h.row.form
  refine ret_of 8 Tryz.func68 rfl rfl (by simp) ?_
  refine au ?_
  refine pl_val _ rfl rfl (val_load1 hT rfl rfl rfl (h.blk.cell rfl)) ?_
  refine pl_op rfl rfl (opTo_call (fst := []) (cap := []) rfl rfl rfl rfl (by decide +kernel) ((cloneL_ret h.row.lies (by omega)).mono ?_))
  rintro r w1 ⟨hr, hk⟩
  refine au ?_
  exact rn_ret Tryz.func68 (.inl ⟨_, rfl, rfl⟩) ⟨hr, hk⟩

theorem pcode_ret (h : PVm R B w q fq p) : Ret Tryz.prog 90 [.pointer (some ⟨q, 0, none⟩)] w fun r w' => r = .int .i64 (if p.2 then 15 else 0) ∧ w' = w := by
  obtain ⟨v, rfl, h⟩ := h
  refine ret_of 7 Tryz.func90 rfl rfl (by simp) ?_
  refine au ?_
  refine pl_val _ rfl rfl (val_load1 hT rfl rfl rfl (h.blk.cell rfl)) ?_
  refine au ?_
  exact rn_ret Tryz.func90 (.inl ⟨_, rfl, rfl⟩) ⟨rfl, rfl⟩
end
end E
end Go.Proofs.YtmplkogkphmmjafGreat

/- The landed machine, as it lies in memory; its words; contracts of goes, next, push, pop, cell, setCell, jump, stop. -/
namespace Go.Proofs.YtmplkogkphmmjafGreat
set_option maxRecDepth 20000
set_option maxHeartbeats 4000000
namespace E
open Go.Proofs

abbrev tMa : Nat := 133
theorem neML : tMa ≠ tLg := by decide
theorem neMP : tMa ≠ tPr := by decide
def maC (m : Nat) (cv iv : Value) (q : Nat) (left : Int) (torn : Bool) : List Value := [.pointer (some ⟨m, 0, none⟩), cv, iv, .pointer (some ⟨q, 0, none⟩), .int .i64 left, .bool torn]

/-- What is known of a machine beside its mind. -/
structure Mo where
  L : List Is
  inp : List Int
  m : Nat
  q : Nat
  pr : Pr
  left : Int
  torn : Bool
  gen : Int
def Mx.o (M : Mx) : Mo := ⟨M.L, M.inp, M.m, M.q, M.pr, M.left, M.torn, M.gen⟩
def fpV (x d s m : Nat) (wv : Value) (q : Nat) (pv iv : Value) : List Nat := x :: (fpM d s m wv ++ ((q :: obs pv) ++ obs iv))
theorem mem_fpV {x d s m q k : Nat} {wv pv iv : Value} : k ∈ fpV x d s m wv q pv iv ↔ k = x ∨ k = m ∨ k = s ∨ k ∈ fpD d wv ∨ k ∈ q :: obs pv ∨ k ∈ obs iv := by
  unfold fpV fpM
  simp only [List.mem_cons, List.mem_append, or_assoc]

/-- A machine at x. -/
structure Mv (R : Nat → Prop) (B : Nat) (w : World) (x : Nat) (O : Mo) (d s : Nat) (S W : List Int) (D : List Bool) (wv cv iv pv : Value) : Prop where
  st : St B w d s O.m S W D wv
  hs : B ≤ s
  gen : genS S = O.gen
  pr : Pv R B w O.q pv O.pr
  blk : Blk w x (maC O.m cv iv O.q O.left O.torn) tMa
  code : InsV R w cv O.L
  inp : RowL w B iv O.inp
  hx : B ≤ x
  apt : Apt pv iv
  nr : ∀ k ∈ fpV x d s O.m wv O.q pv iv, ¬ R k
/-- A machine at x, of whose words E is true, and Y of its disk. -/
def Vx (Y : Nat → List Int → Prop) (R : Nat → Prop) (B : Nat) (w : World) (x : Nat) (fp : List Nat) (O : Mo) (E : List Int → Prop) : Prop := ∃ d s S W D wv cv iv pv, fp = fpV x d s O.m wv O.q pv iv ∧ Mv R B w x O d s S W D wv cv iv pv ∧ E W ∧ Y d S
/-- A mind that stands in the words W; behind the cells they are those of Z. -/
structure Ena (Z W : List Int) (m : Md) : Prop extends Enc W m where
  agr : ∀ j, 5 + m.cells.length ≤ j → W[j]? = Z[j]?
/-- The same, but for the numbers on the stack. -/
structure Enb (Z W : List Int) (m : Md) : Prop extends Enc W m where
  agb : ∀ j, 5 + m.cells.length ≤ j → (j < 53 ∨ 53 + m.stack.length ≤ j) → W[j]? = Z[j]?
theorem Ena.b {Z W : List Int} {m : Md} (h : Ena Z W m) : Enb Z W m := ⟨h.toEnc, fun j hj _ => h.agr j hj⟩
def Vm (Y : Nat → List Int → Prop) (Z : List Int) (R : Nat → Prop) (B : Nat) (w : World) (x : Nat) (fp : List Nat) (M : Mx) : Prop := Vx Y R B w x fp M.o fun W => Ena Z W M.md
def Vp (Y : Nat → List Int → Prop) (Z : List Int) (R : Nat → Prop) (B : Nat) (w : World) (x : Nat) (fp : List Nat) (M : Mx) : Prop := Vx Y R B w x fp M.o fun W => Enb Z W M.md

section
variable {Y : Nat → List Int → Prop} {Z : List Int} {R : Nat → Prop} {B : Nat} {w w' : World} {x d s : Nat} {fp fp2 : List Nat} {O : Mo} {S W : List Int} {D : List Bool} {wv cv iv pv : Value} {E E' : List Int → Prop}
theorem Mv.lt (h : Mv R B w x O d s S W D wv cv iv pv) : ∀ k ∈ fpV x d s O.m wv O.q pv iv, B ≤ k ∧ k < w.heap.size ∧ ¬ R k := fun k hk => by
  have hn := h.nr k hk
  refine ⟨?_, ?_, hn⟩
  · rcases mem_fpV.1 hk with rfl | rfl | rfl | hk | hk | hk
    · exact h.hx
    · exact h.st.hm
    · exact h.hs
    · exact (h.st.dsk.lt k hk).1
    · exact (h.pr.lt k hk).1
    · exact (h.inp.lt k hk).1
  · rcases mem_fpV.1 hk with rfl | rfl | rfl | hk | hk | hk
    · exact h.blk.lt
    · exact h.st.mem.blk.lt
    · exact Blk.lt h.st.sto
    · exact (h.st.dsk.lt k hk).2
    · exact (h.pr.lt k hk).2.1
    · exact (h.inp.lt k hk).2
theorem Mv.keep (h : Mv R B w x O d s S W D wv cv iv pv) (hk : Keep fp2 w w') (hn : ∀ k ∈ fp2, ¬ R k ∧ k ∉ fpV x d s O.m wv O.q pv iv) : Mv R B w' x O d s S W D wv cv iv pv := by
  have hx : ∀ k, k ∈ fpV x d s O.m wv O.q pv iv → k ∉ fp2 := fun k hk hm => (hn k hm).2 hk
  refine ⟨⟨h.st.mem.keep hk (hx _ (mem_fpV.2 (.inr (.inl rfl)))), hk.blk h.st.sto (hx _ (mem_fpV.2 (.inr (.inr (.inl rfl))))), h.st.dsk.keep hk fun k hk => hx _ (mem_fpV.2 (.inr (.inr (.inr (.inl hk))))), h.st.good, h.st.tied, h.st.hm⟩, h.hs, h.gen,
    h.pr.keep hk fun k hm hq => (hn k hm).2 (mem_fpV.2 (.inr (.inr (.inr (.inr (.inl hq)))))), hk.blk h.blk (hx _ (mem_fpV.2 (.inl rfl))), h.code.keep hk fun c hR => ⟨h.pr.ro c hR, fun hm => (hn c hm).1 hR⟩,
    h.inp.keep hk fun k hq => hx _ (mem_fpV.2 (.inr (.inr (.inr (.inr (.inr hq)))))), h.hx, h.apt, h.nr⟩
theorem Vx.lt (h : Vx Y R B w x fp O E) : ∀ k ∈ fp, B ≤ k ∧ k < w.heap.size ∧ ¬ R k := by
  obtain ⟨d, s, S, W, D, wv, cv, iv, pv, rfl, h, _⟩ := h
  exact h.lt
theorem Vx.in (h : Vx Y R B w x fp O E) : x ∈ fp := by
  obtain ⟨d, s, S, W, D, wv, cv, iv, pv, rfl, h, _⟩ := h
  exact mem_fpV.2 (.inl rfl)
theorem Vx.mIn (h : Vx Y R B w x fp O E) : O.m ∈ fp := by
  obtain ⟨d, s, S, W, D, wv, cv, iv, pv, rfl, h, _⟩ := h
  exact mem_fpV.2 (.inr (.inl rfl))
theorem Vx.keep (h : Vx Y R B w x fp O E) (hk : Keep fp2 w w') (hn : ∀ k ∈ fp2, ¬ R k ∧ k ∉ fp) : Vx Y R B w' x fp O E := by
  obtain ⟨d, s, S, W, D, wv, cv, iv, pv, rfl, h, he⟩ := h
  exact ⟨d, s, S, W, D, wv, cv, iv, pv, rfl, h.keep hk hn, he⟩
theorem Vx.keep0 (h : Vx Y R B w x fp O E) (hk : Keep [] w w') : Vx Y R B w' x fp O E := h.keep hk fun k hk => by cases hk
theorem Vx.mono (h : Vx Y R B w x fp O E) (he : ∀ W, W.length = 112 → E W → E' W) : Vx Y R B w x fp O E' := by
  obtain ⟨d, s, S, W, D, wv, cv, iv, pv, rfl, h, e⟩ := h
  exact ⟨d, s, S, W, D, wv, cv, iv, pv, rfl, h, he W h.st.mem.wl e.1, e.2⟩
theorem Vx.ptr (h : Vx Y R B w x fp O E) : w.cell? ⟨x, 0, none⟩ = some (.pointer (some ⟨O.m, 0, none⟩)) := by
  obtain ⟨d, s, S, W, D, wv, cv, iv, pv, rfl, h, _⟩ := h
  exact h.blk.cell rfl
theorem Vx.prt (h : Vx Y R B w x fp O E) : w.cell? ⟨x, 3, none⟩ = some (.pointer (some ⟨O.q, 0, none⟩)) := by
  obtain ⟨d, s, S, W, D, wv, cv, iv, pv, rfl, h, _⟩ := h
  exact h.blk.cell rfl
theorem Vx.bk (h : Vx Y R B w x fp O E) : ∃ cv iv, Blk w x (maC O.m cv iv O.q O.left O.torn) tMa ∧ InsV R w cv O.L ∧ RowL w B iv O.inp ∧ ∀ k, R k → k < w.heap.size := by
  obtain ⟨d, s, S, W, D, wv, cv, iv, pv, rfl, h, _⟩ := h
  exact ⟨cv, iv, h.blk, h.code, h.inp, h.pr.ro⟩
theorem Vx.load (h : Vx Y R B w x fp O E) (i : Int) (v : Int) (he : ∀ W, W.length = 112 → E W → loadW W i = v) : Ret Tryz.prog 86 [.pointer (some ⟨O.m, 0, none⟩), .int .i64 i] w fun r w' => r = .int .i64 v ∧ w' = w := by
  obtain ⟨d, s, S, W, D, wv, cv, iv, pv, rfl, h, e⟩ := h
  rw [← he W h.st.mem.wl e.1]
  exact load_ret h.st.mem i
theorem Vx.put (h : Vx Y R B w x fp O E) (i v : Int) (he : ∀ W, W.length = 112 → E W → E' (putW W i v)) : Ret Tryz.prog 85 [.pointer (some ⟨O.m, 0, none⟩), .int .i64 i, .int .i64 v] w fun r w' => r = .bool (hasM i) ∧ Vx Y R B w' x fp O E' ∧ Keep [O.m] w w' := by
  obtain ⟨d, s, S, W, D, wv, cv, iv, pv, rfl, h, e⟩ := h
  refine (puts_ret h.st i v).mono ?_
  rintro r w1 ⟨rfl, h1, hk1⟩
  refine ⟨rfl, ⟨d, s, S, _, _, wv, cv, iv, pv, rfl, ⟨h1, h.hs, h.gen, ?_, ?_, ?_, ?_, h.hx, h.apt, h.nr⟩, he W h.st.mem.wl e.1, e.2⟩, hk1⟩
  · refine h.pr.keep hk1 fun k hm hq => ?_
    rw [List.mem_singleton.1 hm] at hq
    rcases List.mem_cons.1 hq with hq | hq
    · exact Blk.ne h.st.mem.blk h.pr.blk (by decide) hq
    · exact h.pr.row.ne h.st.mem.blk (by decide) _ hq (by simp)
  · exact hk1.blk h.blk (by simp; exact Blk.ne h.blk h.st.mem.blk (by decide))
  · refine h.code.keep hk1 fun c hR => ⟨h.pr.ro c hR, fun hm => ?_⟩
    rw [List.mem_singleton.1 hm] at hR
    exact h.nr _ (mem_fpV.2 (.inr (.inl rfl))) hR
  · exact h.inp.keep hk1 (h.inp.ne h.st.mem.blk (by decide))
end

/-! ### Its words -/
theorem loadW_at {W : List Int} {i : Nat} {v : Int} (h : W[i]? = some v) (hi : i < 112) : loadW W ((i : Nat) : Int) = v := by
  have hm : hasM ((i : Nat) : Int) = true := by simp [hasM]; omega
  unfold loadW
  rw [hm, if_pos rfl, Int.toNat_natCast, List.getD_eq_getElem?_getD, h]
  rfl
theorem putW_at (W : List Int) {i : Nat} (v : Int) (hi : i < 112) : putW W ((i : Nat) : Int) v = W.set i v := by
  have hm : hasM ((i : Nat) : Int) = true := by simp [hasM]; omega
  unfold putW
  rw [hm, if_pos rfl, Int.toNat_natCast]
theorem set_at {W : List Int} (hl : W.length = 112) {i : Nat} (hi : i < 112) (v : Int) : (W.set i v)[i]? = some v := by
  rw [List.getElem?_set, if_pos rfl, if_pos (by omega)]
theorem set_off {W : List Int} {i j : Nat} (h : i ≠ j) (v : Int) : (W.set i v)[j]? = W[j]? := by rw [List.getElem?_set, if_neg h]
section
variable {W : List Int} {m : Md}
theorem enc_next (h : Enc W m) (hl : W.length = 112) (n : Nat) : Enc (W.set 0 (n : Int)) { m with next := n } :=
  ⟨set_at hl (by decide) _, (set_off (by decide) _).trans h.many, (set_off (by decide) _).trans h.read, (set_off (by decide) _).trans h.out, (set_off (by decide) _).trans h.state, fun i x hi => (set_off (by omega) _).trans (h.cells i x hi), fun i x hi => (set_off (by omega) _).trans (h.stack i x hi)⟩
theorem enc_many (h : Enc W m) (hl : W.length = 112) {s : List Int} {k : Int} (hk : k = (s.length : Nat)) (hs : ∀ i x, s[i]? = some x → W[53 + i]? = some x) : Enc (W.set 1 k) { m with stack := s } :=
  ⟨(set_off (by decide) _).trans h.next, by rw [set_at hl (by decide), hk], (set_off (by decide) _).trans h.read, (set_off (by decide) _).trans h.out, (set_off (by decide) _).trans h.state, fun i x hi => (set_off (by omega) _).trans (h.cells i x hi), fun i x hi => (set_off (by omega) _).trans (hs i x hi)⟩
theorem enc_read (h : Enc W m) (hl : W.length = 112) {k : Int} {n : Nat} (hk : k = (n : Nat)) : Enc (W.set 2 k) { m with read := n } :=
  ⟨(set_off (by decide) _).trans h.next, (set_off (by decide) _).trans h.many, by rw [set_at hl (by decide), hk], (set_off (by decide) _).trans h.out, (set_off (by decide) _).trans h.state, fun i x hi => (set_off (by omega) _).trans (h.cells i x hi), fun i x hi => (set_off (by omega) _).trans (h.stack i x hi)⟩
theorem enc_out (h : Enc W m) (hl : W.length = 112) {k : Int} {n : Nat} (hk : k = (n : Nat)) : Enc (W.set 3 k) { m with out := n } :=
  ⟨(set_off (by decide) _).trans h.next, (set_off (by decide) _).trans h.many, (set_off (by decide) _).trans h.read, by rw [set_at hl (by decide), hk], (set_off (by decide) _).trans h.state, fun i x hi => (set_off (by omega) _).trans (h.cells i x hi), fun i x hi => (set_off (by omega) _).trans (h.stack i x hi)⟩
theorem enc_state (h : Enc W m) (hl : W.length = 112) {k : Int} {n : Nat} (hk : k = (n : Nat)) : Enc (W.set 4 k) { m with state := n } :=
  ⟨(set_off (by decide) _).trans h.next, (set_off (by decide) _).trans h.many, (set_off (by decide) _).trans h.read, (set_off (by decide) _).trans h.out, by rw [set_at hl (by decide), hk], fun i x hi => (set_off (by omega) _).trans (h.cells i x hi), fun i x hi => (set_off (by omega) _).trans (h.stack i x hi)⟩
theorem enc_cell (h : Enc W m) (hl : W.length = 112) (hc : m.cells.length ≤ 48) {a : Nat} (ha : a < m.cells.length) (n : Int) : Enc (W.set (5 + a) n) { m with cells := m.cells.set a n } := by
  refine ⟨(set_off (by omega) _).trans h.next, (set_off (by omega) _).trans h.many, (set_off (by omega) _).trans h.read, (set_off (by omega) _).trans h.out, (set_off (by omega) _).trans h.state, fun i x hi => ?_, fun i x hi => (set_off (by omega) _).trans (h.stack i x hi)⟩
  simp only [List.getElem?_set] at hi
  by_cases e : a = i
  · subst e
    rw [if_pos rfl, if_pos ha] at hi
    cases hi
    exact set_at hl (by omega) _
  · rw [if_neg e] at hi
    exact (set_off (by omega) _).trans (h.cells i x hi)
theorem enc_top (h : Enc W m) (hc : m.cells.length ≤ 48) (n : Int) : Enc (W.set (53 + m.stack.length) n) m := by
  refine ⟨(set_off (by omega) _).trans h.next, (set_off (by omega) _).trans h.many, (set_off (by omega) _).trans h.read, (set_off (by omega) _).trans h.out, (set_off (by omega) _).trans h.state, fun i x hi => ?_, fun i x hi => ?_⟩
  · have := (List.getElem?_eq_some_iff.1 hi).1
    exact (set_off (by omega) _).trans (h.cells i x hi)
  · have := (List.getElem?_eq_some_iff.1 hi).1
    exact (set_off (by omega) _).trans (h.stack i x hi)
end

section
variable {Z W : List Int} {m : Md}
theorem ena_next (h : Ena Z W m) (hl : W.length = 112) (n : Nat) : Ena Z (W.set 0 (n : Int)) { m with next := n } := ⟨enc_next h.toEnc hl n, fun j hj => (set_off (by omega) _).trans (h.agr j hj)⟩
theorem ena_read (h : Ena Z W m) (hl : W.length = 112) {k : Int} {n : Nat} (hk : k = (n : Nat)) : Ena Z (W.set 2 k) { m with read := n } := ⟨enc_read h.toEnc hl hk, fun j hj => (set_off (by omega) _).trans (h.agr j hj)⟩
theorem ena_out (h : Ena Z W m) (hl : W.length = 112) {k : Int} {n : Nat} (hk : k = (n : Nat)) : Ena Z (W.set 3 k) { m with out := n } := ⟨enc_out h.toEnc hl hk, fun j hj => (set_off (by omega) _).trans (h.agr j hj)⟩
theorem ena_state (h : Ena Z W m) (hl : W.length = 112) {k : Int} {n : Nat} (hk : k = (n : Nat)) : Ena Z (W.set 4 k) { m with state := n } := ⟨enc_state h.toEnc hl hk, fun j hj => (set_off (by omega) _).trans (h.agr j hj)⟩
theorem ena_cell (h : Ena Z W m) (hl : W.length = 112) (hc : m.cells.length ≤ 48) {a : Nat} (ha : a < m.cells.length) (n : Int) : Ena Z (W.set (5 + a) n) { m with cells := m.cells.set a n } :=
  ⟨enc_cell h.toEnc hl hc ha n, fun j hj => by
    have hj : 5 + (m.cells.set a n).length ≤ j := hj
    rw [List.length_set] at hj
    exact (set_off (by omega) _).trans (h.agr j hj)⟩
end

/-! ### Its methods -/
theorem built_mi (a : Int) : Tryz.prog.built 107 [(0, .int .i64 a)] = some (iC (a, 0, 0, 0)).toArray := by kernel_rfl
theorem zero_mis : ((Tryz.prog.info? 107).bind (·.zero)).map (·.cells) = some (iC (0, 0, 0, 0)).toArray := by kernel_rfl
theorem size_mis : sizeOk Tryz.prog 107 4 = true := by kernel_rfl
section
variable {Y : Nat → List Int → Prop} {Z : List Int} {R : Nat → Prop} {B : Nat} {w : World} {x : Nat} {fp : List Nat} {M : Mx}

theorem Vm.b (h : Vm Y Z R B w x fp M) : Vp Y Z R B w x fp M := Vx.mono h fun _ _ e => e.b
theorem goes_ret (h : Vm Y Z R B w x fp M) : Ret Tryz.prog 83 [.pointer (some ⟨x, 0, none⟩)] w fun r w' => r = .bool (decide (M.md.state = 0)) ∧ w' = w := by
  refine ret_of 9 Tryz.func83 rfl rfl (by simp) ?_
  refine au ?_
  refine pl_val _ rfl rfl (val_load1 hT rfl rfl rfl (h.ptr)) ?_
  refine pl_op rfl rfl (opTo_call (fst := []) (cap := []) rfl rfl rfl rfl (by decide +kernel) ((h.load 4 (M.md.state : Nat) fun W hl e => loadW_at e.state (by decide)).mono ?_))
  rintro r w1 ⟨rfl, hww⟩
  rw [hww]
  by_cases hs : M.md.state = 0
  · refine ye ?_
    refine au ?_
    exact rn_ret Tryz.func83 (.inl ⟨_, rfl, rfl⟩) ⟨by simp [hs], rfl⟩
  · refine nay ?_
    refine au ?_
    exact rn_ret Tryz.func83 (.inl ⟨_, rfl, rfl⟩) ⟨by simp [hs], rfl⟩

theorem mcnext_ret (h : Vm Y Z R B w x fp M) {i : Is} (hi : M.L[M.md.next]? = some i) : Ret Tryz.prog 84 [.pointer (some ⟨x, 0, none⟩)] w fun r w' => r = .agg (iC i).toArray ∧ Keep [] w w' := by
  have hn : M.md.next < M.L.length := (List.getElem?_eq_some_iff.1 hi).1
  refine ret_of 28 Tryz.func84 rfl rfl (by simp) ?_
  refine au ?_
  refine pl_op rfl rfl (opTo_allocN _ rfl zero_mis ?_)
  intro w1 x1 hx1 hs1 hk1 hb1
  have h1 := h.keep0 hk1
  obtain ⟨cv, iv, hbk, hcd, _, hro⟩ := h1.bk
  obtain ⟨cb, cq, ccap, rfl, hcF, hcr⟩ := hcd.at hi
  refine au ?_
  refine pl_val _ rfl rfl (val_load1 hT rfl rfl rfl (h1.ptr)) ?_
  refine pl_op rfl rfl (opTo_call (fst := []) (cap := []) rfl rfl rfl rfl (by decide +kernel) ((h1.load 0 (M.md.next : Nat) fun W hl e => loadW_at e.next (by decide)).mono ?_))
  rintro r w1' ⟨rfl, hww⟩
  rw [hww]
  refine au ?_
  refine nay ?_
  refine au ?_
  refine pl_val _ rfl rfl (val_load1 hT rfl rfl rfl (hbk.cell rfl)) ?_
  refine au ?_
  have hn' : M.md.next < M.o.L.length := hn
  refine nay ?_
  refine au ?_
  refine pl_val _ rfl rfl (val_load1 hT rfl rfl rfl (hbk.cell rfl)) ?_
  refine au ?_
  refine pl_val _ rfl rfl (val_index M.md.next hT rfl rfl rfl rfl rfl hn' w1) ?_
  refine pl_val (.agg (iC i).toArray) rfl rfl (val_load (iC i) hT rfl rfl rfl hcr) ?_
  refine pl_op rfl rfl (opTo_storeN (iC i) rfl rfl rfl rfl size_mis hb1 (by simp [iC]) (iC_one _) ?_)
  intro w2 hs2 hk2 hb2
  rw [splice_whole (by rfl)] at hb2
  refine au ?_
  exact rn_ret Tryz.func84 (.inr (.inr (.inl ⟨_, _, _, rfl, rfl, blk_loadVar hT hb2 rfl⟩))) ⟨rfl, hk1.trB hk2 (by omega)⟩

theorem mpush_ret (h : Vm Y Z R B w x fp M) (hs : M.md.stack.length ≤ 58) (hc : M.md.cells.length ≤ 48) (n : Int) : Ret Tryz.prog 111 [.pointer (some ⟨x, 0, none⟩), .int .i64 n] w fun r w' => r = .tuple #[] ∧ Vp Y Z R B w' x fp { M with md := { M.md with stack := M.md.stack ++ [n] } } ∧ Keep [M.m] w w' := by
  refine ret_of 25 Tryz.func111 rfl rfl (by simp) ?_
  refine au ?_
  refine pl_val _ rfl rfl (val_load1 hT rfl rfl rfl (h.ptr)) ?_
  refine pl_op rfl rfl (opTo_call (fst := []) (cap := []) rfl rfl rfl rfl (by decide +kernel) ((h.load 1 (M.md.stack.length : Nat) fun W hl e => loadW_at e.many (by decide)).mono ?_))
  rintro r w1 ⟨rfl, hww⟩
  rw [hww]
  refine au ?_
  refine pl_val _ rfl rfl (val_load1 hT rfl rfl rfl (h.ptr)) ?_
  refine au ?_
  refine pl_num (((53 + M.md.stack.length : Nat) : Int)) rfl rfl rfl rfl rfl (by simp only [ariP]; omega) ?_
  refine au ?_
  refine pl_op rfl rfl (opTo_call (fst := []) (cap := []) rfl rfl rfl rfl (by decide +kernel) ((h.put (E' := fun W => Enc W M.md ∧ W[53 + M.md.stack.length]? = some n ∧ ∀ j, 5 + M.md.cells.length ≤ j → j ≠ 53 + M.md.stack.length → W[j]? = Z[j]?) ((53 + M.md.stack.length : Nat) : Int) n fun W hl e => by
    rw [putW_at W n (by omega)]
    exact ⟨enc_top e.toEnc hc n, set_at hl (by omega) n, fun j hj hne => (set_off (by omega) _).trans (e.agr j hj)⟩).mono ?_))
  rintro r w2 ⟨rfl, h2, hk2⟩
  refine au ?_
  refine pl_val _ rfl rfl (val_load1 hT rfl rfl rfl (h2.ptr)) ?_
  refine au ?_
  refine pl_num (((M.md.stack.length + 1 : Nat) : Int)) rfl rfl rfl rfl rfl (by simp only [ariP]; omega) ?_
  refine pl_op rfl rfl (opTo_call (fst := []) (cap := []) rfl rfl rfl rfl (by decide +kernel) ((h2.put (E' := fun W => Enb Z W { M.md with stack := M.md.stack ++ [n] }) 1 ((M.md.stack.length + 1 : Nat) : Int) fun W hl e => by
    rw [show (1 : Int) = ((1 : Nat) : Int) from rfl, putW_at W _ (by decide)]
    refine ⟨enc_many e.1 hl (by simp) fun i v hi => ?_, fun j hj hf => (set_off (by omega) _).trans (e.2.2 j hj (by simp only [List.length_append, List.length_cons, List.length_nil] at hf; omega))⟩
    rw [List.getElem?_append] at hi
    split at hi
    · exact e.1.stack i v hi
    · have hj := (List.getElem?_eq_some_iff.1 hi).1
      simp only [List.length_cons, List.length_nil] at hj
      rw [show i - M.md.stack.length = 0 by omega] at hi
      rw [show i = M.md.stack.length by omega, e.2.1]
      exact hi).mono ?_))
  rintro r w3 ⟨rfl, h3, hk3⟩
  refine au ?_
  exact rn_end Tryz.func111 (.inr (.inl ⟨rfl, rfl⟩)) ⟨rfl, h3, hk2.tr hk3⟩

theorem mpop_ret (h : Vm Y Z R B w x fp M) (h0 : 1 ≤ M.md.stack.length) (hs : M.md.stack.length ≤ 59) : Ret Tryz.prog 113 [.pointer (some ⟨x, 0, none⟩)] w fun r w' => r = .int .i64 (topS M.md.stack) ∧ Vm Y Z R B w' x fp { M with md := { M.md with stack := M.md.stack.dropLast } } ∧ Keep [M.m] w w' := by
  obtain ⟨k, hk⟩ : ∃ k, M.md.stack.length = k + 1 := ⟨M.md.stack.length - 1, by omega⟩
  refine ret_of 23 Tryz.func113 rfl rfl (by simp) ?_
  refine au ?_
  refine pl_val _ rfl rfl (val_load1 hT rfl rfl rfl (h.ptr)) ?_
  refine pl_op rfl rfl (opTo_call (fst := []) (cap := []) rfl rfl rfl rfl (by decide +kernel) ((h.load 1 (M.md.stack.length : Nat) fun W hl e => loadW_at e.many (by decide)).mono ?_))
  rintro r w1 ⟨rfl, hww⟩
  rw [hww]
  refine pl_num (((k : Nat) : Int)) rfl rfl rfl rfl rfl (by simp only [ariP]; omega) ?_
  refine au ?_
  refine pl_val _ rfl rfl (val_load1 hT rfl rfl rfl (h.ptr)) ?_
  refine au ?_
  refine pl_op rfl rfl (opTo_call (fst := []) (cap := []) rfl rfl rfl rfl (by decide +kernel) ((h.put (E' := fun W => Ena Z W { M.md with stack := M.md.stack.dropLast } ∧ W[53 + k]? = some (topS M.md.stack)) 1 ((k : Nat) : Int) fun W hl e => by
    rw [show (1 : Int) = ((1 : Nat) : Int) from rfl, putW_at W _ (by decide)]
    refine ⟨⟨enc_many e.toEnc hl (by simp; omega) fun i v hi => ?_, fun j hj => (set_off (by omega) _).trans (e.agr j hj)⟩, (set_off (by omega) _).trans (e.stack k _ (topS_at hk))⟩
    rw [List.getElem?_dropLast] at hi
    split at hi
    · exact e.stack i v hi
    · cases hi).mono ?_))
  rintro r w2 ⟨rfl, h2, hk2⟩
  refine au ?_
  refine pl_val _ rfl rfl (val_load1 hT rfl rfl rfl (h2.ptr)) ?_
  refine au ?_
  refine pl_num (((53 + k : Nat) : Int)) rfl rfl rfl rfl rfl (by simp only [ariP]; omega) ?_
  refine pl_op rfl rfl (opTo_call (fst := []) (cap := []) rfl rfl rfl rfl (by decide +kernel) ((h2.load ((53 + k : Nat) : Int) (topS M.md.stack) fun W hl e => loadW_at e.2 (by omega)).mono ?_))
  rintro r w3 ⟨rfl, hww⟩
  rw [hww]
  refine au ?_
  exact rn_ret Tryz.func113 (.inl ⟨_, rfl, rfl⟩) ⟨rfl, h2.mono fun W _ e => e.1, hk2⟩

theorem mcell_at (h : Vm Y Z R B w x fp M) (hc : M.md.cells.length ≤ 48) {a : Nat} (ha : a < M.md.cells.length) : Ret Tryz.prog 69 [.pointer (some ⟨x, 0, none⟩), .int .i64 (a : Nat)] w fun r w' => r = .int .i64 (cellAt M.md.cells ((a : Nat) : Int)) ∧ w' = w := by
  refine ret_of 12 Tryz.func69 rfl rfl (by simp) ?_
  refine au ?_
  refine pl_val _ rfl rfl (val_load1 hT rfl rfl rfl (h.ptr)) ?_
  refine au ?_
  refine pl_num (((5 + a : Nat) : Int)) rfl rfl rfl rfl rfl (by simp only [ariP]; omega) ?_
  refine pl_op rfl rfl (opTo_call (fst := []) (cap := []) rfl rfl rfl rfl (by decide +kernel) ((h.load ((5 + a : Nat) : Int) (cellAt M.md.cells ((a : Nat) : Int)) fun W hl e => loadW_at (e.cells a _ (cellAt_nat ha)) (by omega)).mono ?_))
  rintro r w1 ⟨rfl, hww⟩
  rw [hww]
  refine au ?_
  exact rn_ret Tryz.func69 (.inl ⟨_, rfl, rfl⟩) ⟨rfl, rfl⟩

theorem msetCell_ret (h : Vm Y Z R B w x fp M) (hc : M.md.cells.length ≤ 48) {a : Nat} (ha : a < M.md.cells.length) (n : Int) : Ret Tryz.prog 115 [.pointer (some ⟨x, 0, none⟩), .int .i64 (a : Nat), .int .i64 n] w fun r w' => r = .tuple #[] ∧ Vm Y Z R B w' x fp { M with md := { M.md with cells := M.md.cells.set a n } } ∧ Keep [M.m] w w' := by
  refine ret_of 14 Tryz.func115 rfl rfl (by simp) ?_
  refine au ?_
  refine pl_val _ rfl rfl (val_load1 hT rfl rfl rfl (h.ptr)) ?_
  refine au ?_
  refine pl_num (((5 + a : Nat) : Int)) rfl rfl rfl rfl rfl (by simp only [ariP]; omega) ?_
  refine au ?_
  refine pl_op rfl rfl (opTo_call (fst := []) (cap := []) rfl rfl rfl rfl (by decide +kernel) ((h.put (E' := fun W => Ena Z W { M.md with cells := M.md.cells.set a n }) ((5 + a : Nat) : Int) n fun W hl e => by
    rw [putW_at W n (by omega)]
    exact ena_cell e hl hc ha n).mono ?_))
  rintro r w2 ⟨rfl, h2, hk2⟩
  refine au ?_
  exact rn_end Tryz.func115 (.inr (.inl ⟨rfl, rfl⟩)) ⟨rfl, h2, hk2⟩

theorem mjump_ret (h : Vm Y Z R B w x fp M) (t : Nat) : Ret Tryz.prog 119 [.pointer (some ⟨x, 0, none⟩), .int .i64 (t : Nat)] w fun r w' => r = .tuple #[] ∧ Vm Y Z R B w' x fp { M with md := { M.md with next := t } } ∧ Keep [M.m] w w' := by
  refine ret_of 10 Tryz.func119 rfl rfl (by simp) ?_
  refine au ?_
  refine pl_val _ rfl rfl (val_load1 hT rfl rfl rfl (h.ptr)) ?_
  refine au ?_
  refine pl_op rfl rfl (opTo_call (fst := []) (cap := []) rfl rfl rfl rfl (by decide +kernel) ((h.put (E' := fun W => Ena Z W { M.md with next := t }) 0 (t : Nat) fun W hl e => by
    rw [show (0 : Int) = ((0 : Nat) : Int) from rfl, putW_at W _ (by decide)]
    exact ena_next e hl t).mono ?_))
  rintro r w2 ⟨rfl, h2, hk2⟩
  refine au ?_
  exact rn_end Tryz.func119 (.inr (.inl ⟨rfl, rfl⟩)) ⟨rfl, h2, hk2⟩

theorem mstop_ret (h : Vm Y Z R B w x fp M) (t : Nat) (ht : t ≤ 1000) : Ret Tryz.prog 133 [.pointer (some ⟨x, 0, none⟩), .int .i64 (t : Nat)] w fun r w' => r = .tuple #[] ∧ Vm Y Z R B w' x fp { M with md := { M.md with state := t + 2 } } ∧ Keep [M.m] w w' := by
  refine ret_of 11 Tryz.func133 rfl rfl (by simp) ?_
  refine au ?_
  refine pl_val _ rfl rfl (val_load1 hT rfl rfl rfl (h.ptr)) ?_
  refine au ?_
  refine pl_num (((t + 2 : Nat) : Int)) rfl rfl rfl rfl rfl (by simp only [ariP]; omega) ?_
  refine pl_op rfl rfl (opTo_call (fst := []) (cap := []) rfl rfl rfl rfl (by decide +kernel) ((h.put (E' := fun W => Ena Z W { M.md with state := t + 2 }) 4 ((t + 2 : Nat) : Int) fun W hl e => by
    rw [show (4 : Int) = ((4 : Nat) : Int) from rfl, putW_at W _ (by decide)]
    exact ena_state e hl rfl).mono ?_))
  rintro r w2 ⟨rfl, h2, hk2⟩
  refine au ?_
  exact rn_end Tryz.func133 (.inr (.inl ⟨rfl, rfl⟩)) ⟨rfl, h2, hk2⟩
end
end E
end Go.Proofs.YtmplkogkphmmjafGreat
