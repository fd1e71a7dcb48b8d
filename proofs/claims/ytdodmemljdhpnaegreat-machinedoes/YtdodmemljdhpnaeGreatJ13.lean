/- Several texts in one: MaH, MaB, MaD, MnA, MnB. -/
import Derived.Test.YtdodmemljdhpnaeGreatJ12
/- Helpers for the walks of the laws of package machine. -/
namespace Go.Proofs.YtdodmemljdhpnaeGreat
set_option maxRecDepth 20000
set_option maxHeartbeats 4000000
namespace E
open Go.Proofs

theorem DiskV.lower {B B' : Nat} {w : World} {d : Nat} {S : List Int} {L : List Wr} {wv : Value} (h : DiskV B w d S L wv) (hB : B' ≤ B) : DiskV B' w d S L wv := by
  refine ⟨h.blk, ⟨h.owns.1, ?_⟩, h.ne, h.len, Nat.le_trans hB h.base, h.wf⟩
  rcases h.owns.2 with h0 | ⟨g, cap, cur, h1, h2, r⟩
  · exact .inl h0
  · exact .inr ⟨g, cap, cur, h1, Nat.le_trans hB h2, r⟩
theorem InpV.keep0 {w w' : World} {v : Value} {l : List Int} (h : InpV w v l) (hk : Keep [] w w') : InpV w' v l := by
  obtain ⟨a, cap, h1, h2⟩ := h
  refine ⟨a, cap, h1, fun h0 => ?_⟩
  obtain ⟨b, q, h3, h4, h5⟩ := h2 h0
  exact ⟨b, q, h3, Nat.lt_of_lt_of_le h4 hk.size, range_keep h5 hk h4 (by simp)⟩
theorem InpV.ro {w w' : World} {v : Value} {l : List Int} (h : InpV w v l) (hk : Keep [] w w') : LsR (fun b => b < w.heap.size) w' v l := by
  obtain ⟨a, cap, h1, h2⟩ := h
  refine ⟨a, cap, h1, fun h0 => ?_⟩
  obtain ⟨b, q, h3, h4, h5⟩ := h2 h0
  exact ⟨b, q, h3, h4, range_keep h5 hk h4 (by simp)⟩
theorem InpV.lies {w w' : World} {v : Value} {l : List Int} (h : InpV w v l) (hk : Keep [] w w') : LsV w' v l := h.keep0 hk
/-- All of a new machine is new. -/
theorem mach_ge {n a d s m q : Nat} {fp : List Nat} (hf : ∀ k ∈ fp, k ∈ fpM d s m (.slice none 0 0) ∨ k ∈ [q] ∨ n ≤ k) (hd : a ≤ d) (hs : a ≤ s) (hm : a ≤ m) (hq : a ≤ q) (hn : a ≤ n) : ∀ k ∈ fp, a ≤ k := by
  intro k hk
  rcases hf k hk with h | h | h
  · simp only [fpM, fpD, Value.ownBlock, Option.toList, List.mem_cons, List.not_mem_nil, or_false] at h
    rcases h with rfl | rfl | rfl <;> assumption
  · rw [List.mem_singleton.1 h]; exact hq
  · omega
theorem RowI.low {w : World} {B B' e : Nat} {v : Value} {l : List Is} (h : RowI e w B v l) (hB : B' ≤ B) : RowI e w B' v l := h.lower hB
theorem RowL.low {w : World} {B B' : Nat} {v : Value} {l : List Int} (h : RowL w B v l) (hB : B' ≤ B) : RowL w B' v l := by
  refine ⟨h.1, ?_⟩
  rcases h.2 with h0 | ⟨g, cap, cur, h1, h2, r⟩
  · exact .inl h0
  · exact .inr ⟨g, cap, cur, h1, Nat.le_trans hB h2, r⟩
/-- Over an earlier world. -/
theorem Bw.base {w1 w0 w : World} {b : Nat} {W : List Is} {inp : List Int} {cv iv : Value} {r : Rws} {m k : Md} {p : Pr} (h : Bw w0 w b W inp cv iv r m k p) (hk : Keep [] w1 w0) (hi : InpV w1 iv inp) : Bw w1 w b W inp cv iv r m k p :=
  ⟨hk.tr h.kp, Nat.le_trans hk.size h.ge, h.bk, h.cd.low hk.size, hi, h.rs.low hk.size, h.rc.low hk.size, h.rks.low hk.size, h.rkc.low hk.size, h.ro.low hk.size, h.ap⟩
theorem ord0 {c : Nat} {Q : List Is} {inp : List Int} {m q : Nat} (hP : Prg c Q) (hc : c ≤ 48) (hi : inp.length ≤ 1000) (left : Int) : Ord c Q ⟨Q ++ [haltI], inp, m, q, mind0 c, ([], false), left, false, genS S0⟩ 0 :=
  ⟨⟨hP, hc, rfl, fit0 _, hi, Nat.le_refl _, Nat.le_refl _, by show (0 : Int) ≤ genS S0; rw [genS0]; decide, by show genS S0 ≤ ((0 : Nat) : Int); rw [genS0]; decide, Nat.zero_le _⟩, rfl, rfl⟩
theorem cells_len {c i : Nat} {Q : List Is} {M : Mx} (h : Ord c Q M i) : M.md.cells.length = c := by
  have := h.fit.cells
  omega
theorem cellOf_len (vs : List VarT) : cellOf vs ((vs.length : Nat) : Int) = sumV vs := by
  unfold cellOf
  rw [Int.toNat_natCast, List.take_length]
end E
end Go.Proofs.YtdodmemljdhpnaeGreat

/- The first look of the laws of package machine. -/
namespace Go.Proofs.YtdodmemljdhpnaeGreat
set_option maxRecDepth 20000
set_option maxHeartbeats 4000000
namespace E
open Go.Proofs

def bV : VarT := (⟨#[97]⟩, 1)
def b1 : List Value := scells 4 0 kz kz (.slice none 0 0) (.slice none 0 0)
def bE : List Value := [.int .i64 2, .int .i64 0, .int .i64 0, .slice none 0 0]
def b2 : List Value := scells 3 0 bE kz (.slice none 0 0) (.slice none 0 0)
def b3 : List Value := scells 7 0 kz kz (.slice none 0 0) (.slice none 0 0)
def bT : ET := .mk 2 0 0 []
def bS : List ST := [.mk 4 0 zeroT zeroT [] [], .mk 3 0 bT zeroT [] [], .mk 7 0 zeroT zeroT [] []]
def bQ : List Is := [(12, 0, 0, 0), (2, 0, 0, 0), (11, 0, 0, 0), (15, 0, 0, 0)]
def bL : List Is := bQ ++ [haltI]
theorem b_ins : insSs [bV] bS 0 = bQ := by kernel_rfl
theorem b_make : makeOf [bV] bS = bL := by kernel_rfl
theorem b_fault : progFault [bV] bS = 0 := by kernel_rfl
theorem b_sum : sumV [bV] = 1 := by kernel_rfl
theorem built_bv : Tryz.prog.built 54 [(0, .string ⟨#[97]⟩), (1, .int .i64 1)] = some (vcell bV).toArray := by kernel_rfl
theorem slice_bv : sliceCells Tryz.prog 22 1 [(0, .agg (vcell bV).toArray)] = some (54, (vcell bV).toArray) := by kernel_rfl
theorem built_b1 : Tryz.prog.built 59 [(0, .int .i64 4)] = some b1.toArray := by kernel_rfl
theorem built_bE : Tryz.prog.built 57 [(0, .int .i64 2)] = some bE.toArray := by kernel_rfl
theorem built_b2 : Tryz.prog.built 59 [(0, .int .i64 3), (2, .agg bE.toArray)] = some b2.toArray := by kernel_rfl
theorem built_b3 : Tryz.prog.built 59 [(0, .int .i64 7)] = some b3.toArray := by kernel_rfl
theorem slice_bs : sliceCells Tryz.prog 23 3 [(0, .agg b1.toArray), (1, .agg b2.toArray), (2, .agg b3.toArray)] = some (59, (b1 ++ (b2 ++ b3)).toArray) := by kernel_rfl
theorem built_bp (g h : Nat) : Tryz.prog.built 25 [(0, .slice (some ⟨g, 0, none⟩) 1 1), (1, .slice (some ⟨h, 0, none⟩) 3 3)] = some [Value.slice (some ⟨g, 0, none⟩) 1 1, .slice (some ⟨h, 0, none⟩) 3 3].toArray := by kernel_rfl
/-- What comes of it, instruction by instruction. -/
def itB : Nat → Md × Pr
  | 0 => (mind0 1, ([], false))
  | i + 1 => stB bL [7] (itB i).1 (itB i).2
theorem itB0 : (itB 0).1.state = 0 := by kernel_rfl
theorem itB1 : (itB 1).1.state = 0 := by kernel_rfl
theorem itB2 : (itB 2).1.state = 0 := by kernel_rfl
theorem itB3 : (itB 3).1.state = 0 := by kernel_rfl
theorem itB4 : (itB 4).1.state = 0 := by kernel_rfl
theorem itB_on : ∀ i, i < 5 → (itB i).1.state = 0 := by
  intro i hi
  have h : i = 0 ∨ i = 1 ∨ i = 2 ∨ i = 3 ∨ i = 4 := by omega
  rcases h with rfl | rfl | rfl | rfl | rfl
  · exact itB0
  · exact itB1
  · exact itB2
  · exact itB3
  · exact itB4
theorem itB_off : (itB 5).1.state = 1 := by kernel_rfl
theorem itB_out : (itB 5).2 = ([7], false) := by kernel_rfl
theorem itB_cells : (itB 5).1.cells = [7] := by kernel_rfl
theorem itB_code : codeB (itB 5).1 (itB 5).2 = 0 := by kernel_rfl

section
variable {V : (Nat → Prop) → Nat → World → Nat → List Nat → Mx → Prop} {PV : (Nat → Prop) → Nat → World → Nat → List Nat → Pr → Prop} {TV : World → Nat → Bool → Prop} {pz : List Value} {off : Nat}
theorem machineBegun_ret (I : MaI V PV TV pz off) (hM : MkC) (w : World) : Ret Tryz.prog 4 [] w fun r w' => r = .bool true ∧ Keep [] w w' := by
  refine ret_of 96 Tryz.func4 rfl rfl (by simp) ?_
  refine au ?_
  refine pl_val _ rfl rfl (val_build _ rfl rfl built_bv w) ?_
  refine pl_op rfl rfl (opTo_sliceN 54 (vcell bV) rfl rfl slice_bv ?_)
  intro w1 g1 hg1 hs1 hk1 hb1
  refine pl_val _ rfl rfl (val_build _ rfl rfl built_b1 w1) ?_
  refine pl_val _ rfl rfl (val_build _ rfl rfl built_bE w1) ?_
  refine pl_val _ rfl rfl (val_build _ rfl rfl built_b2 w1) ?_
  refine pl_val _ rfl rfl (val_build _ rfl rfl built_b3 w1) ?_
  refine pl_op rfl rfl (opTo_sliceN 59 (b1 ++ (b2 ++ b3)) rfl rfl slice_bs ?_)
  intro w2 g2 hg2 hs2 hk2 hb2
  have hb1' := hk2.blk hb1 (by simp)
  refine pl_val _ rfl rfl (val_build _ rfl rfl (built_bp g1 g2) w2) ?_
  have hz : ExprV (fun c => c < w2.heap.size) w2 kz zeroT := ExprV.of ExprsV.nil
  have he : ExprV (fun c => c < w2.heap.size) w2 bE bT := ExprV.of ExprsV.nil
  have hs : StmtsV (fun c => c < w2.heap.size) w2 (.slice (some ⟨g2, 0, none⟩) 3 3) bS := by
    refine ⟨_, 3, fun i => if i = 0 then b1 else if i = 1 then b2 else b3, rfl, fun _ => ⟨g2, 0, rfl, hb2.lt, fun i hi => ?_⟩, fun i hi => ?_⟩
    · have h : i = 0 ∨ i = 1 ∨ i = 2 := by simp [bS] at hi; omega
      rcases h with rfl | rfl | rfl <;> exact hb2.range rfl
    · have h : i = 0 ∨ i = 1 ∨ i = 2 := by simp [bS] at hi; omega
      rcases h with rfl | rfl | rfl
      · exact StmtV.of hz hz StmtsV.nil StmtsV.nil
      · exact StmtV.of he hz StmtsV.nil StmtsV.nil
      · exact StmtV.of hz hz StmtsV.nil StmtsV.nil
  have hv : VarsV (fun c => c < w2.heap.size) w2 (.slice (some ⟨g1, 0, none⟩) 1 1) [bV] := by
    refine ⟨_, 1, rfl, Nat.le_refl _, fun _ => ⟨g1, 0, rfl, hb1'.lt, fun i hi => ?_⟩⟩
    have : i = 0 := by simp at hi; omega
    subst this
    exact hb1'.range rfl
  refine pl_op rfl rfl (opTo_call (fst := []) (cap := []) rfl rfl rfl rfl (by decide +kernel) ((hM.make (F := fun c => c < w2.heap.size) (vs := [bV]) (body := bS) ⟨_, _, rfl, hv, hs⟩ (fun c hc => hc) (by decide) (by decide)).mono ?_))
  rintro r w3 ⟨⟨lv, rfl, hI⟩, hk3⟩
  rw [b_fault]
  rw [b_make] at hI
  have hk03 := (hk1.tr hk2).tr hk3
  obtain ⟨la, lc, rfl⟩ := hI.form
  have hll : bL.length = 5 := rfl
  obtain ⟨c, hc, _, hP⟩ := prog_prg (vs := [bV]) (body := bS) b_fault (by decide)
  rw [b_sum] at hc
  have hc1 : c = 1 := by omega
  subst hc1
  rw [b_ins] at hP
  refine au ?_
  refine pl_op rfl rfl (opTo_call (fst := []) (cap := []) rfl rfl rfl rfl (by decide +kernel) ((new_ret w3).mono ?_))
  rintro v wAx ⟨rfl, hdA, hkA⟩
  rw [show List.replicate 272 (0 : Int) = S0 from rfl] at hdA
  refine au ?_
  refine pl_op rfl rfl (opTo_call (fst := []) (cap := []) rfl rfl rfl rfl (by decide +kernel) ((open_ret w3.heap.size wAx).mono ?_))
  rintro v wBx ⟨rfl, hsB, hkB⟩
  have hdB := hdA.keep hkB (by simp)
  obtain ⟨sx, hsx⟩ : ∃ s, s = wAx.heap.size := ⟨_, rfl⟩
  rw [← hsx] at hsB ⊢
  refine au ?_
  refine pl_op rfl rfl (opTo_call (fst := []) (cap := []) rfl rfl rfl rfl (by decide +kernel) ((mnew_ret hsB hdB).mono ?_))
  rintro v wCx ⟨mx, rfl, hle, hmC, hkC⟩
  have hkS : Keep [] w3 wCx := (hkA.tr hkB).tr hkC
  have hszA := hkA.size
  have hszB := hkB.size
  have hszC := hkC.size
  have hmx : w3.heap.size ≤ mx := by omega
  have hst := fresh_st hmC hsB hdB good0 hkC hmx
  rw [allS0] at hst
  refine au ?_
  refine pl_val (.bool false) rfl rfl (val_eqNil (by decide +kernel) rfl rfl wCx) ?_
  refine au ?_
  refine nay ?_
  refine au ?_
  refine pl_val _ rfl rfl (val_build _ rfl rfl I.pbuilt wCx) ?_
  refine pl_op rfl rfl (opTo_boxN pz rfl rfl rfl ?_)
  intro wD q hq hsD hkD hbD
  refine au ?_
  refine pl_op rfl rfl (opTo_sliceN tLg [.int .i64 7] rfl rfl (slice_lg _) ?_)
  intro wE gi hgi hsE hkE hbE
  refine au ?_
  have hk3D : Keep [] w3 wD := hkS.tr hkD
  have hk3E : Keep [] w3 wE := hk3D.tr hkE
  have hszD := hk3D.size
  have hszE := hkE.size
  have hst1 := hst.keep0 (hkD.tr hkE)
  have hR : ∀ k, (k < w3.heap.size ∨ k = gi) → k < wE.heap.size := by
    intro k hk
    omega
  have hlt := hst.lt
  have hnR : ∀ k ∈ fpM w3.heap.size sx mx (.slice none 0 0), ¬ (k < w3.heap.size ∨ k = gi) := by
    intro k hk
    simp only [fpM, fpD, Value.ownBlock, Option.toList, List.mem_cons, List.not_mem_nil, or_false] at hk
    have h1 := hst.mem.blk.lt
    have h2 := hst.sto.lt
    have h3 := hst.dsk.blk.lt
    have h4 := hkD.size
    omega
  have hPV : PV (fun b => b < w3.heap.size ∨ b = gi) w3.heap.size wE q [q] ([], false) := I.pnew (hkE.blk hbD (by simp)) (by omega) (by have := hbD.lt; omega) hR
  have hcode : InsV (fun b => b < w3.heap.size ∨ b = gi) wE (.slice la bL.length lc) bL := (hI.mono (F' := fun b => b < w3.heap.size) fun b hb => hb.2).keep hk3E (fun c hc => ⟨hc, by simp⟩) |>.mono fun b hb => .inl hb
  have hin : LsR (fun b => b < w3.heap.size ∨ b = gi) wE (.slice (some ⟨gi, 0, none⟩) 1 1) [7] := ⟨_, 1, rfl, fun _ => ⟨gi, 0, rfl, .inr rfl, hbE.range rfl⟩⟩
  refine pl_op rfl rfl (opTo_call (fst := []) (cap := []) rfl rfl rfl rfl (by decide +kernel) ((I.new hst1 (by omega) hnR (enc0 1 (by decide)) hPV hcode hin hR (by decide)).mono ?_))
  rintro r w4 ⟨x, fp, rfl, hV4, hk4, hf4⟩
  refine au ?_
  refine pl_val (.bool false) rfl rfl (val_eqNil (by decide +kernel) rfl rfl w4) ?_
  refine au ?_
  have hO4 : Ord 1 bQ ⟨bL, [7], mx, q, (itB 0).1, (itB 0).2, 0, false, (genS S0)⟩ 0 := ord0 hP (by decide) (by decide) 0
  refine rn_ind (fun t σ w' => ∃ (i : Nat) (fp : List Nat) (g : Int), i ≤ 5 ∧ t = 5 - i ∧ σ = [(4, .pointer (some ⟨q, 0, none⟩)), (5, .pointer (some ⟨x, 0, none⟩)), (6, .int .i64 (i : Nat)), (7, .int .i64 (i : Nat))] ∧ Keep [] w3 w' ∧ V (fun b => b < w3.heap.size ∨ b = gi) w3.heap.size w' x fp ⟨bL, [7], mx, q, (itB i).1, (itB i).2, 0, false, g⟩ ∧ Ord 1 bQ ⟨bL, [7], mx, q, (itB i).1, (itB i).2, 0, false, g⟩ i) 5 _ ?_ ⟨0, fp, genS S0, by omega, by omega, rfl, hk3E.tr hk4, hV4, hO4⟩ ?_
  · exact ⟨rfl, rfl, rfl, rfl, trivial⟩
  clear hO4 hV4 hf4
  rintro t σ w5 ih ⟨i, fp, g, hi, rfl, rfl, hk5, hV5, hO5⟩
  refine au ?_
  refine ye ?_
  refine au ?_
  by_cases h5 : i < 5
  · refine pl_op rfl rfl (opTo_call (fst := []) (cap := []) rfl rfl rfl rfl (by decide +kernel) ((I.any hV5 hO5 (by omega) (fun _ => ⟨rfl, rfl⟩)).mono ?_))
    rintro r w6 ⟨hr, fp', g', hV6, hO6, hk6, hf6⟩
    have hr : r = .bool (decide ((itB i).1.state = 0)) := hr
    rw [decide_eq_true (itB_on i h5)] at hr
    subst hr
    refine au ?_
    refine pl_num (((i + 1 : Nat) : Int)) rfl rfl rfl rfl rfl (by simp only [ariP]; omega) ?_
    refine au ?_
    refine pl_num (((i + 1 : Nat) : Int)) rfl rfl rfl rfl rfl (by simp only [ariP]; omega) ?_
    refine au ?_
    refine rn_sub ?_ (ih (5 - (i + 1)) [(4, .pointer (some ⟨q, 0, none⟩)), (5, .pointer (some ⟨x, 0, none⟩)), (6, .int .i64 ((i + 1 : Nat) : Int)), (7, .int .i64 ((i + 1 : Nat) : Int))] w6 (by omega) ⟨i + 1, fp', g', by omega, rfl, rfl, hk5.trans hk6 fun k hk => .inr (I.vlt hV5 k hk).1, hV6, hO6⟩)
    exact ⟨rfl, rfl, rfl, rfl, trivial⟩
  have h55 : i = 5 := by omega
  subst h55
  refine pl_op rfl rfl (opTo_call (fst := []) (cap := []) rfl rfl rfl rfl (by decide +kernel) ((I.offs hV5 (by show (itB 5).1.state ≠ 0; rw [itB_off]; decide)).mono ?_))
  rintro r w6 ⟨rfl, hk6⟩
  refine au ?_
  refine pl_op rfl rfl (opTo_call (fst := []) (cap := []) rfl rfl rfl rfl (by decide +kernel) ((I.result (n := 1) (I.vkeep0 hV5 hk6) hO5 (by omega) (Nat.le_refl 1)).mono ?_))
  rintro r w7 ⟨⟨ov, cv, rfl, hov, hcv⟩, hk7⟩
  have hov : LsV w7 ov [7] := by
    have h : LsV w7 ov (itB 5).2.1 := hov
    rw [itB_out] at h
    exact h
  have hcv : LsV w7 cv [7] := by
    have h : LsV w7 cv ((itB 5).1.cells.take 1) := hcv
    rw [itB_cells] at h
    exact h
  have hcd : codeB (itB 5).1 (itB 5).2 = 0 := itB_code
  obtain ⟨b7, q7, c7, rfl, hl7, hr7⟩ := hov.at (i := 0) (x := 7) rfl
  obtain ⟨b8, q8, c8, rfl, hl8, hr8⟩ := hcv.at (i := 0) (x := 7) rfl
  refine pl_op rfl rfl (opTo_allocN _ rfl zero_re ?_)
  intro w8 x8 hx8 hs8 hk8 hb8
  refine pl_op rfl rfl (opTo_storeN (resC (codeB (itB 5).1 (itB 5).2) (.slice (some ⟨b7, q7, none⟩) 1 c7) (.slice (some ⟨b8, q8, none⟩) 1 c8)) rfl rfl rfl rfl size_re hb8 (by simp [resC]) (resC_one _ _ _ _ _ _ _) ?_)
  intro w9 hs9 hk9 hb9
  rw [splice_whole (by rfl), hcd] at hb9
  have hk79 : Keep [] w7 w9 := hk8.trB hk9 (by omega)
  have hr7 := range_keep hr7 hk79 hl7 (by simp)
  have hr8 := range_keep hr8 hk79 hl8 (by simp)
  refine au ?_
  refine ye ?_
  refine au ?_
  refine pl_val _ rfl rfl (val_load1 hT rfl rfl rfl (hb9.cell rfl)) ?_
  refine ye ?_
  refine au ?_
  refine pl_val _ rfl rfl (val_load1 hT rfl rfl rfl (hb9.cell rfl)) ?_
  refine au ?_
  refine ye ?_
  refine au ?_
  refine pl_val _ rfl rfl (val_load1 hT rfl rfl rfl (hb9.cell rfl)) ?_
  refine pl_val _ rfl rfl (val_index 0 hT rfl rfl rfl rfl rfl (by decide) w9) ?_
  refine pl_val _ rfl rfl (val_load1 hT rfl rfl rfl (hr7 0 (.int .i64 7) rfl)) ?_
  refine ye ?_
  refine au ?_
  refine pl_val _ rfl rfl (val_load1 hT rfl rfl rfl (hb9.cell rfl)) ?_
  refine au ?_
  refine ye ?_
  refine au ?_
  refine pl_val _ rfl rfl (val_load1 hT rfl rfl rfl (hb9.cell rfl)) ?_
  refine pl_val _ rfl rfl (val_index 0 hT rfl rfl rfl rfl rfl (by decide) w9) ?_
  refine pl_val _ rfl rfl (val_load1 hT rfl rfl rfl (hr8 0 (.int .i64 7) rfl)) ?_
  refine ye ?_
  refine au ?_
  obtain ⟨d0, s0, Sz, Wz, Dz, wz, fz, hSt, hs0, hEn, hgz, hPz, hfz⟩ := I.vopen hV5
  have hPz : PV (fun b => b < w3.heap.size ∨ b = gi) w3.heap.size w5 q fz (itB 5).2 := hPz
  rw [itB_out] at hPz
  refine pl_op rfl rfl (opTo_call (fst := []) (cap := []) rfl rfl rfl rfl (by decide +kernel) ((I.list (I.pkeep0 hPz ((hk6.tr hk7).tr hk79)) (by decide)).mono ?_))
  rintro lo w10 ⟨hlo, hk10⟩
  obtain ⟨loa, loc, rfl, _⟩ := hlo
  refine au ?_
  refine ye ?_
  refine au ?_
  refine pl_op rfl rfl (opTo_call (fst := []) (cap := []) rfl rfl rfl rfl (by decide +kernel) ((I.code (I.pkeep0 (I.pkeep0 hPz ((hk6.tr hk7).tr hk79)) hk10)).mono ?_))
  rintro r w11 ⟨hr, hk11⟩
  have hr : r = .int .i64 0 := hr
  subst hr
  refine ye ?_
  refine au ?_
  exact rn_ret Tryz.func4 (.inl ⟨_, rfl, rfl⟩) ⟨rfl, hk03.tr (hk5.tr ((((hk6.tr hk7).tr hk79).tr hk10).tr hk11))⟩
end
end E
end Go.Proofs.YtdodmemljdhpnaeGreat

/- The walk of MachineDoes. -/
namespace Go.Proofs.YtdodmemljdhpnaeGreat
set_option maxRecDepth 20000
set_option maxHeartbeats 4000000
namespace E
open Go.Proofs

section
variable {V : (Nat → Prop) → Nat → World → Nat → List Nat → Mx → Prop} {PV : (Nat → Prop) → Nat → World → Nat → List Nat → Pr → Prop} {TV : World → Nat → Bool → Prop} {pz : List Value} {off : Nat}
theorem machineDoes_ret (I : MaI V PV TV pz off) (hM : MkC) {w : World} {x iv : Value} {vs : List VarT} {body : List ST} {inp : List Int} (h : ProgV (fun b => b < w.heap.size) w x vs body) (hi : InpV w iv inp) (n : Int) :
    Ret Tryz.prog 3 [x, iv, .int .i64 n] w fun r w' => r = .bool true ∧ Keep [] w w' := by
  have hF : In (fun b => b < w.heap.size) w := fun c hc => hc
  have hh := h
  obtain ⟨vv, bv, rfl, hv, hb⟩ := h
  obtain ⟨av, capv, rfl⟩ := hv.form
  obtain ⟨ab, capb, rfl⟩ := hb.form
  have hi0 := hi
  obtain ⟨ia, icap, rfl, _⟩ := hi
  refine ret_of 90 Tryz.func3 rfl rfl (by simp) ?_
  refine au ?_
  refine pl_op rfl rfl (opTo_boxN [.slice av vs.length capv, .slice ab body.length capb] rfl rfl rfl ?_)
  intro w1 p hp0 hs1 hk1 hp1
  refine au ?_
  refine pl_op rfl rfl (opTo_call (fst := []) (cap := []) rfl rfl rfl rfl (by decide +kernel) ((machineBegun_ret I hM w1).mono ?_))
  rintro r w2 ⟨rfl, hk2⟩
  have hk02 := hk1.tr hk2
  have hp2 := hk2.blk hp1 (by simp)
  refine au ?_
  refine pl_val _ rfl rfl (val_load [.slice av vs.length capv, .slice ab body.length capb] hT rfl rfl rfl (hp2.range (by rfl))) ?_
  refine pl_op rfl rfl (opTo_call (fst := []) (cap := []) rfl rfl rfl rfl (by decide +kernel) ((great_ret (hh.keep hk02 hF.stays) (hF.keep hk02)).mono ?_))
  rintro r w3 ⟨⟨g, rfl, hg⟩, hk3⟩
  have hk03 := hk02.tr hk3
  have hp3 := hk3.blk hp2 (by simp)
  cases g with
  | true =>
    refine au ?_
    exact rn_ret Tryz.func3 (.inl ⟨_, rfl, rfl⟩) ⟨rfl, hk03⟩
  | false =>
    obtain ⟨h30, hnm, hsz⟩ := hg rfl
    refine au ?_
    by_cases hil : inp.length > 100
    · refine ye ?_
      refine au ?_
      exact rn_ret Tryz.func3 (.inl ⟨_, rfl, rfl⟩) ⟨rfl, hk03⟩
    refine nay ?_
    refine au ?_
    refine pl_val _ rfl rfl (val_load [.slice av vs.length capv, .slice ab body.length capb] hT rfl rfl rfl (hp3.range (by rfl))) ?_
    refine pl_op rfl rfl (opTo_call (fst := []) (cap := []) rfl rfl rfl rfl (by decide +kernel) ((hM.make (hh.keep hk03 hF.stays) (hF.keep hk03) (by omega) (by omega)).mono ?_))
    rintro r w4 ⟨⟨lv, rfl, hI⟩, hk4⟩
    have hk04 := hk03.tr hk4
    have hp4 := hk4.blk hp3 (by simp)
    refine au ?_
    by_cases hpf : ¬ progFault vs body = 0
    · refine ye ?_
      refine au ?_
      exact rn_ret Tryz.func3 (.inl ⟨_, rfl, rfl⟩) ⟨rfl, hk04⟩
    replace hpf : progFault vs body = 0 := by omega
    refine nay ?_
    rw [hpf]
    have hmk : makeOf vs body = insSs vs body 0 ++ [haltI] := by
      unfold makeOf
      rw [if_pos hpf]
      rfl
    rw [hmk] at hI
    obtain ⟨c, hc, hc48, hP⟩ := prog_prg hpf (by omega)
    obtain ⟨Q, hQ⟩ : ∃ Q, Q = insSs vs body 0 := ⟨_, rfl⟩
    rw [← hQ] at hI hP
    have hcode : InsV (fun b => b < w4.heap.size) w4 lv (Q ++ [haltI]) := hI.mono fun b hb => hb.2
    have hin := hi0.keep0 hk04
    have hp44 := hh.keep hk04 hF.stays
    have hF4 := hF.keep hk04
    have hfit := (prog_fit hpf).1
    refine au ?_
    have hk4S : Keep [] w4 w4 := Keep.refl _ _
    refine pl_op rfl rfl (opTo_call (fst := []) (cap := []) rfl rfl rfl rfl (by decide +kernel) ((new_ret w4).mono ?_))
    rintro v wAx ⟨rfl, hdA, hkA⟩
    rw [show List.replicate 272 (0 : Int) = S0 from rfl] at hdA
    refine au ?_
    refine pl_op rfl rfl (opTo_call (fst := []) (cap := []) rfl rfl rfl rfl (by decide +kernel) ((open_ret w4.heap.size wAx).mono ?_))
    rintro v wBx ⟨rfl, hsB, hkB⟩
    have hdB := hdA.keep hkB (by simp)
    obtain ⟨sx, hsx⟩ : ∃ s, s = wAx.heap.size := ⟨_, rfl⟩
    rw [← hsx] at hsB ⊢
    refine au ?_
    refine pl_op rfl rfl (opTo_call (fst := []) (cap := []) rfl rfl rfl rfl (by decide +kernel) ((mnew_ret hsB hdB).mono ?_))
    rintro v wCx ⟨mx, rfl, hle, hmC, hkC⟩
    have hkS : Keep [] w4 wCx := (hkA.tr hkB).tr hkC
    have hszA := hkA.size
    have hszB := hkB.size
    have hszC := hkC.size
    have hmx : w4.heap.size ≤ mx := by omega
    have hst := fresh_st hmC hsB hdB good0 hkC hmx
    rw [allS0] at hst
    refine au ?_
    refine pl_val _ rfl rfl (val_build _ rfl rfl I.pbuilt wCx) ?_
    refine pl_op rfl rfl (opTo_boxN pz rfl rfl rfl ?_)
    intro wDx qx hqx hsD hkD hbD
    refine au ?_
    have hk4Dx : Keep [] w4 wDx := (hk4S.tr hkS).tr hkD
    have hBx : w4.heap.size ≤ w4.heap.size := hk4S.size
    have hstx : St w4.heap.size wDx w4.heap.size sx mx S0 (List.replicate 112 0) (List.replicate 14 false) (.slice none 0 0) := ⟨(hst.keep0 hkD).mem, (hst.keep0 hkD).sto, (hst.keep0 hkD).dsk.lower hBx, good0, (hst.keep0 hkD).tied, Nat.le_trans hBx hmx⟩
    have hRx : ∀ k, k < w4.heap.size → k < wDx.heap.size := fun k hk => Nat.lt_of_lt_of_le hk hk4Dx.size
    have hnRx : ∀ k ∈ fpM w4.heap.size sx mx (.slice none 0 0), ¬ k < w4.heap.size := by
      intro k hk
      simp only [fpM, fpD, Value.ownBlock, Option.toList, List.mem_cons, List.not_mem_nil, or_false] at hk
      omega
    refine pl_op rfl rfl (opTo_call (fst := []) (cap := []) rfl rfl rfl rfl (by decide +kernel) ((I.new (R := fun b => b < w4.heap.size) (B := w4.heap.size) hstx (by omega) hnRx (enc0 c hc48) (I.pnew hbD (by omega) (by omega) hRx) (hcode.keep hk4Dx fun c hc => ⟨hc, by simp⟩) (hin.ro hk4Dx) hRx (by omega)).mono ?_))
    rintro r wx ⟨xx, fx, rfl, hVx, hkE, hfx⟩
    have hgex : ∀ k ∈ fx, w4.heap.size ≤ k := mach_ge hfx (Nat.le_refl _) (by omega) hmx (by omega) (by have := hkS.size; have := hkD.size; omega)
    have hkSx : Keep [] w4 wx := (hkS.tr hkD).tr hkE
    clear hst hstx hbD hkD hkE hkS hkC hkB hkA hdA hdB hsB hmC hle hfx hsD hszA hszB hszC
    refine au ?_
    have hp5 := hkSx.blk hp4 (by simp)
    refine pl_val _ rfl rfl (val_load [.slice av vs.length capv, .slice ab body.length capb] hT rfl rfl rfl (hp5.range (by rfl))) ?_
    refine au ?_
    refine pl_op rfl rfl (opTo_call (fst := []) (cap := []) rfl rfl rfl rfl (by decide +kernel) ((newBeing_ret (hp44.keep hkSx hF4.stays) (hF4.keep hkSx) (hin.lies hkSx) hpf (by omega) hc hc48).mono ?_))
    rintro r w6 ⟨b, cb, rw0, rfl, hB6⟩
    have hk46 : Keep [] w4 w6 := hkSx.tr hB6.kp
    have hV6 := I.vkeep0 hVx hB6.kp
    have hB6' := hB6.base hkSx hin
    have hQ6 : insP vs body = Q ++ [haltI] := by rw [hQ]; rfl
    rw [hQ6] at hB6'
    have hdis : ∀ k ∈ fpB b cb rw0, k ∉ fx := fun k hk hm => by
      have := (hB6.own k hk).1
      have := (I.vlt hVx k hm).2.1
      omega
    refine au ?_
    have hp6 := hk46.blk hp4 (by simp)
    refine pl_val _ rfl rfl (val_load [.slice av vs.length capv, .slice ab body.length capb] hT rfl rfl rfl (hp6.range (by rfl))) ?_
    refine au ?_
    refine pl_val _ rfl rfl (val_load1 hT rfl rfl rfl (hp6.cell rfl)) ?_
    refine au ?_
    refine pl_op rfl rfl (opTo_call (fst := []) (cap := []) rfl rfl rfl rfl (by decide +kernel) ((refCell_ret (hp44.keep hk46 hF4.stays) (hF4.keep hk46) hfit ((vs.length : Nat) : Int)).mono ?_))
    rintro r w7 ⟨rfl, hk7⟩
    rw [cellOf_len, ← hc]
    have hV7 := I.vkeep0 hV6 hk7
    have hB7 := hB6'.keep0 hk7
    refine au ?_
    refine rn_ind (fun t σ w' => ∃ (i : Nat) (fp : List Nat) (md kk : Md) (pr : Pr) (g : Int) (rw : Rws), i ≤ 600 ∧ t = 600 - i ∧ σ = [(2, .int .i64 n), (9, .pointer (some ⟨xx, 0, none⟩)), (10, .pointer (some ⟨b, 0, none⟩)), (11, .int .i64 (c : Nat)), (12, .int .i64 (i : Nat))] ∧ Keep [] w4 w' ∧ V (fun b => b < w4.heap.size) w4.heap.size w' xx fp ⟨Q ++ [haltI], inp, mx, qx, md, pr, 0, false, g⟩ ∧ Ord c Q ⟨Q ++ [haltI], inp, mx, qx, md, pr, 0, false, g⟩ i ∧ Bw w4 w' b (Q ++ [haltI]) inp cb (.slice ia inp.length icap) rw md kk pr ∧ ∀ k ∈ fpB b cb rw, k ∉ fp) 600 _ ?_ ⟨0, fx, mind0 c, mind0 c, ([], false), genS S0, rw0, by omega, by omega, rfl, hk46.tr hk7, hV7, ord0 hP hc48 (by omega) 0, hB7, hdis⟩ ?_
    · exact ⟨rfl, rfl, rfl, rfl, rfl, trivial⟩
    rintro t σ w8 ih ⟨i, fp, md, kk, pr, g, rw1, hi6, rfl, rfl, hk48, hV8, hO8, hB8, hdis8⟩
    have hcl : md.cells.length = c := cells_len hO8
    have hpl : pr.1.length ≤ i := hO8.out
    have hrd : md.read ≤ i := hO8.read
    refine au ?_
    by_cases hn : (i : Int) < n
    · refine ye ?_
      refine au ?_
      by_cases h600 : i < 600
      · refine ye ?_
        refine auj ?_
        refine rn_seq ?_
        refine rn_with (fun σ' w' => ∃ (fp' : List Nat) (g' : Int) (rw2 : Rws) (kk' : Md), Keep [] w4 w' ∧ V (fun b => b < w4.heap.size) w4.heap.size w' xx fp' ⟨Q ++ [haltI], inp, mx, qx, (stB (Q ++ [haltI]) inp md pr).1, (stB (Q ++ [haltI]) inp md pr).2, 0, false, g'⟩ ∧ Ord c Q ⟨Q ++ [haltI], inp, mx, qx, (stB (Q ++ [haltI]) inp md pr).1, (stB (Q ++ [haltI]) inp md pr).2, 0, false, g'⟩ (i + 1) ∧ Bw w4 w' b (Q ++ [haltI]) inp cb (.slice ia inp.length icap) rw2 (stB (Q ++ [haltI]) inp md pr).1 kk' (stB (Q ++ [haltI]) inp md pr).2 ∧ (∀ k ∈ fpB b cb rw2, k ∉ fp') ∧ Sub [(2, .int .i64 n), (9, .pointer (some ⟨xx, 0, none⟩)), (10, .pointer (some ⟨b, 0, none⟩)), (11, .int .i64 (c : Nat)), (12, .int .i64 (i : Nat))] σ') ?_ ?_
        rotate_left
        · intro fin
          refine au ?_
          refine pl_op rfl rfl (opTo_call (fst := []) (cap := []) rfl rfl rfl rfl (by decide +kernel) ((I.commits hV8 hO8 (by omega)).mono ?_))
          rintro r w9 ⟨rfl, hk9⟩
          refine au ?_
          refine pl_op rfl rfl (opTo_call (fst := []) (cap := []) rfl rfl rfl rfl (by decide +kernel) ((bCommits_ret (hB8.keep0 hk9) hO8.fit).mono ?_))
          rintro r w9' ⟨rfl, hk9'⟩
          have hk99 := hk9.tr hk9'
          refine pl_val (.bool false) rfl rfl (val_neBool _ _ false (by decide +kernel) rfl rfl rfl (by simp) w9') ?_
          refine au ?_
          refine pl_op rfl rfl (opTo_call (fst := []) (cap := []) rfl rfl rfl rfl (by decide +kernel) ((I.any (I.vkeep0 hV8 hk99) hO8 (by omega) (fun _ => ⟨rfl, rfl⟩)).mono ?_))
          rintro r w10 ⟨rfl, fp', g', hV10, hO10, hk10, hf10⟩
          have hB10 := (hB8.keep0 hk99).keep hk10 hdis8 fun k hk => (I.vlt hV8 k hk).1
          have hdis10 : ∀ k ∈ fpB b cb rw1, k ∉ fp' := fun k hk hm => by
            rcases hf10 k hm with h1 | h1
            · exact hdis8 k hk h1
            · have := ((hB8.keep0 hk99).own k hk).2; omega
          refine au ?_
          refine pl_op rfl rfl (opTo_call (fst := []) (cap := []) rfl rfl rfl rfl (by decide +kernel) ((bStep_ret hP hB10 hO8.fit (by omega) (by omega) (by omega) true).mono ?_))
          rintro r w11 ⟨rfl, rw2, hB11, hk11, hf11⟩
          have hV11 : V (fun b => b < w4.heap.size) w4.heap.size w11 xx fp' ⟨Q ++ [haltI], inp, mx, qx, (stB (Q ++ [haltI]) inp md pr).1, (stB (Q ++ [haltI]) inp md pr).2, 0, false, g'⟩ := I.vkeep hV10 hk11 fun k hk => ⟨by have := (hB10.own k hk).1; omega, hdis10 k hk⟩
          have hdis11 : ∀ k ∈ fpB b cb rw2, k ∉ fp' := fun k hk hm => by
            rcases hf11 k hk with h1 | h1
            · exact hdis10 k h1 hm
            · have := (I.vlt hV10 k hm).2.1; omega
          refine pl_val (.bool false) rfl rfl (val_neBool _ _ false (by decide +kernel) rfl rfl rfl (by simp) w11) ?_
          refine au ?_
          refine pl_op rfl rfl (opTo_call (fst := []) (cap := []) rfl rfl rfl rfl (by decide +kernel) ((I.torn hV11).mono ?_))
          rintro r w12 ⟨rfl, hk12⟩
          have hV9 := I.vkeep0 hV11 hk12
          have hk412 : Keep [] w4 w12 := (((hk48.tr hk99).trans hk10 fun k hk => .inr (I.vlt hV8 k hk).1).trans hk11 fun k hk => .inr (hB10.own k hk).1).tr hk12
          have hB12 := hB11.keep0 hk12
          have hO9 : Ord c Q ⟨Q ++ [haltI], inp, mx, qx, (stB (Q ++ [haltI]) inp md pr).1, (stB (Q ++ [haltI]) inp md pr).2, 0, false, g'⟩ (i + 1) := hO10
          have hcl : (stB (Q ++ [haltI]) inp md pr).1.cells.length = c := cells_len hO9
          have hpl : (stB (Q ++ [haltI]) inp md pr).2.1.length ≤ i + 1 := hO9.out
          refine au ?_
          by_cases h60 : i < 60
          · refine ye ?_
            refine au ?_
            refine pl_op rfl rfl (opTo_call (fst := []) (cap := []) rfl rfl rfl rfl (by decide +kernel) ((I.result hV9 hO9 (by omega) (Nat.le_refl c)).mono ?_))
            rintro r wr ⟨⟨ov, cv, rfl, hov, hcv⟩, hkr⟩
            rw [List.take_of_length_le (Nat.le_of_eq hcl)] at hcv
            refine au ?_
            refine pl_op rfl rfl (opTo_call (fst := []) (cap := []) rfl rfl rfl rfl (by decide +kernel) ((bNow_ret (hB12.keep0 hkr) (by have := hO9.state; show _ ≤ 1000; exact Nat.le_trans this (by decide))).mono ?_))
            rintro r ws ⟨rfl, hks⟩
            refine au ?_
            refine pl_op rfl rfl (opTo_call (fst := []) (cap := []) rfl rfl rfl rfl (by decide +kernel) ((sameRes_ret _ (hov.keep0 hks) (hcv.keep0 hks) ((hB12.keep0 hkr).keep0 hks).ro.lies ((hB12.keep0 hkr).keep0 hks).rc.lies (Nat.le_trans hpl (by omega)) (Nat.le_trans (Nat.le_of_eq hcl) (by omega))).mono ?_))
            rintro r wt ⟨rfl, hkt⟩
            have hkw : Keep [] w12 wt := (hkr.tr hks).tr hkt
            refine auj ?_
            exact fin _ _ ⟨fp', g', rw2, _, hk412.tr hkw, I.vkeep0 hV9 hkw, hO9, hB12.keep0 hkw, hdis11, rfl, rfl, rfl, rfl, rfl, trivial⟩
          · refine nay ?_
            refine au ?_
            obtain ⟨z, hz⟩ : ∃ z, intOp .rem .i64 ((i : Nat) : Int) 37 = some (.int .i64 z) := ⟨_, rfl⟩
            refine pl_val _ rfl rfl (val_int .i64 _ _ _ rfl rfl rfl hz w12) ?_
            by_cases hz0 : z = 0
            · refine ye ?_
              refine au ?_
              refine pl_op rfl rfl (opTo_call (fst := []) (cap := []) rfl rfl rfl rfl (by decide +kernel) ((I.result hV9 hO9 (by omega) (Nat.le_refl c)).mono ?_))
              rintro r wr ⟨⟨ov, cv, rfl, hov, hcv⟩, hkr⟩
              rw [List.take_of_length_le (Nat.le_of_eq hcl)] at hcv
              refine au ?_
              refine pl_op rfl rfl (opTo_call (fst := []) (cap := []) rfl rfl rfl rfl (by decide +kernel) ((bNow_ret (hB12.keep0 hkr) (by have := hO9.state; show _ ≤ 1000; exact Nat.le_trans this (by decide))).mono ?_))
              rintro r ws ⟨rfl, hks⟩
              refine au ?_
              refine pl_op rfl rfl (opTo_call (fst := []) (cap := []) rfl rfl rfl rfl (by decide +kernel) ((sameRes_ret _ (hov.keep0 hks) (hcv.keep0 hks) ((hB12.keep0 hkr).keep0 hks).ro.lies ((hB12.keep0 hkr).keep0 hks).rc.lies (Nat.le_trans hpl (by omega)) (Nat.le_trans (Nat.le_of_eq hcl) (by omega))).mono ?_))
              rintro r wt ⟨rfl, hkt⟩
              have hkw : Keep [] w12 wt := (hkr.tr hks).tr hkt
              refine auj ?_
              exact fin _ _ ⟨fp', g', rw2, _, hk412.tr hkw, I.vkeep0 hV9 hkw, hO9, hB12.keep0 hkw, hdis11, rfl, rfl, rfl, rfl, rfl, trivial⟩
            · refine nay ?_
              refine auj ?_
              exact fin _ _ ⟨fp', g', rw2, _, hk412, hV9, hO9, hB12, hdis11, rfl, rfl, rfl, rfl, rfl, trivial⟩
        rintro σ' w13 ⟨fp', g', rw2, kk', hk413, hV13, hO13, hB13, hdis13, hsub⟩
        refine rn_sub hsub ?_
        refine au ?_
        refine pl_num (((i + 1 : Nat) : Int)) rfl rfl rfl rfl rfl (by simp only [ariP]; omega) ?_
        refine au ?_
        refine rn_sub ?_ (ih (600 - (i + 1)) [(2, .int .i64 n), (9, .pointer (some ⟨xx, 0, none⟩)), (10, .pointer (some ⟨b, 0, none⟩)), (11, .int .i64 (c : Nat)), (12, .int .i64 ((i + 1 : Nat) : Int))] w13 (by omega) ⟨i + 1, fp', _, kk', _, g', rw2, by omega, rfl, rfl, hk413, hV13, hO13, hB13, hdis13⟩)
        exact ⟨rfl, rfl, rfl, rfl, rfl, trivial⟩
      · refine nay ?_
        refine au ?_
        refine pl_op rfl rfl (opTo_call (fst := []) (cap := []) rfl rfl rfl rfl (by decide +kernel) ((I.result hV8 hO8 (by omega) (Nat.le_refl c)).mono ?_))
        rintro r wr ⟨⟨ov, cv, rfl, hov, hcv⟩, hkr⟩
        rw [List.take_of_length_le (Nat.le_of_eq hcl)] at hcv
        refine au ?_
        refine pl_op rfl rfl (opTo_call (fst := []) (cap := []) rfl rfl rfl rfl (by decide +kernel) ((bNow_ret (hB8.keep0 hkr) (by have := hO8.state; show _ ≤ 1000; exact Nat.le_trans this (by decide))).mono ?_))
        rintro r ws ⟨rfl, hks⟩
        refine au ?_
        refine pl_op rfl rfl (opTo_call (fst := []) (cap := []) rfl rfl rfl rfl (by decide +kernel) ((sameRes_ret _ (hov.keep0 hks) (hcv.keep0 hks) ((hB8.keep0 hkr).keep0 hks).ro.lies ((hB8.keep0 hkr).keep0 hks).rc.lies (Nat.le_trans hpl (by omega)) (Nat.le_trans (Nat.le_of_eq hcl) (by omega))).mono ?_))
        rintro r wt ⟨rfl, hkt⟩
        have hkw : Keep [] w8 wt := (hkr.tr hks).tr hkt
        refine au ?_
        exact rn_ret Tryz.func3 (.inl ⟨_, rfl, rfl⟩) ⟨rfl, hk04.tr (hk48.tr hkw)⟩
    · refine nay ?_
      refine au ?_
      refine pl_op rfl rfl (opTo_call (fst := []) (cap := []) rfl rfl rfl rfl (by decide +kernel) ((I.result hV8 hO8 (by omega) (Nat.le_refl c)).mono ?_))
      rintro r wr ⟨⟨ov, cv, rfl, hov, hcv⟩, hkr⟩
      rw [List.take_of_length_le (Nat.le_of_eq hcl)] at hcv
      refine au ?_
      refine pl_op rfl rfl (opTo_call (fst := []) (cap := []) rfl rfl rfl rfl (by decide +kernel) ((bNow_ret (hB8.keep0 hkr) (by have := hO8.state; show _ ≤ 1000; exact Nat.le_trans this (by decide))).mono ?_))
      rintro r ws ⟨rfl, hks⟩
      refine au ?_
      refine pl_op rfl rfl (opTo_call (fst := []) (cap := []) rfl rfl rfl rfl (by decide +kernel) ((sameRes_ret _ (hov.keep0 hks) (hcv.keep0 hks) ((hB8.keep0 hkr).keep0 hks).ro.lies ((hB8.keep0 hkr).keep0 hks).rc.lies (Nat.le_trans hpl (by omega)) (Nat.le_trans (Nat.le_of_eq hcl) (by omega))).mono ?_))
      rintro r wt ⟨rfl, hkt⟩
      have hkw : Keep [] w8 wt := (hkr.tr hks).tr hkt
      refine au ?_
      exact rn_ret Tryz.func3 (.inl ⟨_, rfl, rfl⟩) ⟨rfl, hk04.tr (hk48.tr hkw)⟩
end
end E
end Go.Proofs.YtdodmemljdhpnaeGreat

/- The landed printer, as it lies in memory; contracts of its Put, List, Code; slices.Clone of numbers. -/
namespace Go.Proofs.YtdodmemljdhpnaeGreat
set_option maxRecDepth 20000
set_option maxHeartbeats 4000000
namespace E
open Go.Proofs

section
variable {P : Program} {T : Tbl} {n : Nat} {σ : Env} {o : Oper}
theorem val_isNil {t t' : TypeId} {x : Operand} {len cap sz : Nat} (hT : T.check P = true) (ho : o.op = .binOp .eql t x (.const (.slice none 0 0)) t') (hx : ev σ x = some (.slice none len cap)) (ht : find T.sl t = some sz) (w : World) : Val P n σ o w (.bool true) := by
  intro a ha
  have hs := Tbl.sl_ok hT ht
  unfold slOk at hs
  split at hs
  · rename_i e hu
    have he : ∀ d, (Op.equalIn (d + 1) t (.slice none len cap) (.slice none 0 0)).run P w = .ok true w := fun d => by
      simp [Op.equalIn, run_underlying hu]
    have he' : (Op.equal t (.slice none len cap) (.slice none 0 0)).run P w = .ok true w := he 9999
    have hc : a.eval (.const (.slice none 0 0)) = .slice none 0 0 := rfl
    simp [execOp, ho, ha.eval hx, hc, eqGuard, binOp, he']
  · cases hs
theorem mval_min {t : TypeId} {x y : Operand} {kk : IntKind} {a b : Int} (r : Int) (ho : o.op = .call { callee := .builtin .min, args := #[x, y], argTypes := #[t, t] }) (hx : ev σ x = some (.int kk a)) (hy : ev σ y = some (.int kk b)) (hr : (if b < a then b else a) = r) (w : World) : Val P n σ o w (.int kk r) := by
  intro ac ha
  simp [execOp, ho, resolve, invoke, builtin, ha.eval hx, ha.eval hy, Builtin.min_, Builtin.min2, hr]
theorem mval_max {t : TypeId} {x y : Operand} {kk : IntKind} {a b : Int} (r : Int) (ho : o.op = .call { callee := .builtin .max, args := #[x, y], argTypes := #[t, t] }) (hx : ev σ x = some (.int kk a)) (hy : ev σ y = some (.int kk b)) (hr : (if b > a then b else a) = r) (w : World) : Val P n σ o w (.int kk r) := by
  intro ac ha
  simp only [gt_iff_lt] at hr
  simp [execOp, ho, resolve, invoke, builtin, ha.eval hx, ha.eval hy, Builtin.max_, Builtin.max2, hr]
end

theorem cloneL_ret {w : World} {v : Value} {l : List Int} (h : LsV w v l) (hl : l.length ≤ 1000000) : Ret Tryz.prog 27 [v] w fun r w' => RowL w' w.heap.size r l ∧ Keep [] w w' := by
  obtain ⟨a, cap, rfl, h2⟩ := h
  refine ret_of 8 Tryz.func27 rfl rfl (by simp) ?_
  cases a with
  | none =>
    have h0 : l = [] := List.eq_nil_of_length_eq_zero (by
      rcases Nat.eq_zero_or_pos l.length with h | h
      · exact h
      · obtain ⟨_, _, e, _⟩ := h2 h
        cases e)
    subst h0
    refine au ?_
    refine pl_val (.bool true) rfl rfl (val_isNil hT rfl rfl rfl w) ?_
    refine au ?_
    exact rn_ret Tryz.func27 (.inl ⟨_, rfl, rfl⟩) ⟨RowL.nil _ _, Keep.refl _ _⟩
  | some ad =>
    refine au ?_
    refine pl_val (.bool false) rfl rfl (val_notNil hT rfl rfl rfl w) ?_
    refine au ?_
    refine pl_op rfl rfl (opTo_sliceN tLg [] rfl rfl (by kernel_rfl) ?_)
    intro w1 g hg hs1 hk1 hb1
    have hown : Own w1 w.heap.size tLg 1 (.slice (some ⟨g, 0, none⟩) 0 0) 0 [] := ⟨rfl, .inr ⟨g, 0, [], rfl, by omega, hb1, Nat.le_refl _, by simp, rfl⟩⟩
    refine au ?_
    by_cases h0 : 0 < l.length
    · obtain ⟨b, q, e, hb, hr⟩ := h2 h0
      cases e
      refine pl_op rfl rfl (opTo_app w.heap.size tLg 1 8 [] (lgs l) rfl rfl rfl app_lg hown (range_keep hr hk1 hb (by simp)) (by rw [lgs_length]; omega) (lgs_one l) h0 (by unfold maxLen; omega) (by omega) hk1.size ?_)
      intro g2 c2 w2 hown2 hcase
      rw [Nat.zero_add, List.nil_append] at hown2
      rw [Nat.zero_add]
      refine au ?_
      refine rn_ret Tryz.func27 (.inl ⟨_, rfl, rfl⟩) ⟨hown2, ?_⟩
      rcases hcase with ⟨h3, _, h5⟩ | ⟨_, h4, _⟩
      · refine hk1.trans h5 fun k hk => .inr ?_
        have h3 : some g = some g2 := h3
        injection h3 with h3
        rw [List.mem_singleton.1 hk]
        omega
      · exact hk1.tr h4
    · have h0 : l = [] := List.eq_nil_of_length_eq_zero (by omega)
      subst h0
      refine pl_op rfl rfl (opTo_appZ (ln := 0) rfl rfl rfl app_lg hown ?_)
      refine au ?_
      exact rn_ret Tryz.func27 (.inl ⟨_, rfl, rfl⟩) ⟨hown, hk1⟩

/-! ### The printer -/
def prC (v : Value) (p : Pr) : List Value := [v, .int .i64 (if p.2 then 15 else 0)]
def pz0 : List Value := [.slice none 0 0, .int .i64 0]
theorem nePL : tPr ≠ tLg := by decide
/-- A printer at q, what was printed in the row v. -/
structure Pv (R : Nat → Prop) (B : Nat) (w : World) (q : Nat) (v : Value) (p : Pr) : Prop where
  blk : Blk w q (prC v p) tPr
  row : RowL w B v p.1
  ge : B ≤ q
  ro : ∀ k, R k → k < w.heap.size
  nr : ∀ k ∈ q :: obs v, ¬ R k
def PVm (R : Nat → Prop) (B : Nat) (w : World) (q : Nat) (fq : List Nat) (p : Pr) : Prop := ∃ v, fq = q :: obs v ∧ Pv R B w q v p
section
variable {R : Nat → Prop} {B : Nat} {w w' : World} {q : Nat} {fq fp2 : List Nat} {p : Pr} {v : Value}
theorem Pv.lt (h : Pv R B w q v p) : ∀ k ∈ q :: obs v, B ≤ k ∧ k < w.heap.size ∧ ¬ R k := fun k hk => by
  refine ⟨?_, ?_, h.nr k hk⟩
  · rcases List.mem_cons.1 hk with rfl | hk
    · exact h.ge
    · exact (h.row.lt k hk).1
  · rcases List.mem_cons.1 hk with rfl | hk
    · exact h.blk.lt
    · exact (h.row.lt k hk).2
theorem Pv.keep (h : Pv R B w q v p) (hk : Keep fp2 w w') (hn : ∀ k ∈ fp2, k ∉ q :: obs v) : Pv R B w' q v p :=
  ⟨hk.blk h.blk fun hm => hn q hm (by simp), h.row.keep hk fun k hk hm => hn k hm (by simp [hk]), h.ge, fun k hR => Nat.lt_of_lt_of_le (h.ro k hR) hk.size, h.nr⟩
theorem Pv.keep0 (h : Pv R B w q v p) (hk : Keep [] w w') : Pv R B w' q v p := h.keep hk fun k hk => by cases hk
theorem pv_lt (h : PVm R B w q fq p) : ∀ k ∈ fq, B ≤ k ∧ k < w.heap.size ∧ ¬ R k := by
  obtain ⟨v, rfl, h⟩ := h
  exact h.lt
theorem pv_keep (h : PVm R B w q fq p) (hk : Keep fp2 w w') (hn : ∀ k ∈ fp2, ¬ R k ∧ k ∉ fq) : PVm R B w' q fq p := by
  obtain ⟨v, rfl, h⟩ := h
  exact ⟨v, rfl, h.keep hk fun k hk => (hn k hk).2⟩
theorem pv_new (h : Blk w q pz0 tPr) (hB : B ≤ q) (hR : ¬ R q) (hro : ∀ k, R k → k < w.heap.size) : PVm R B w q [q] ([], false) :=
  ⟨.slice none 0 0, rfl, h, RowL.nil _ _, hB, hro, fun k hk => by
    have hk : k = q := by simpa [obs, Value.ownBlock] using hk
    rw [hk]
    exact hR⟩

theorem pput_ret (h : PVm R B w q fq p) (hl : p.1.length ≤ 100000) (k n : Int) : Ret Tryz.prog 83 [.pointer (some ⟨q, 0, none⟩), .int .i64 k, .int .i64 n] w fun r w' => r = .tuple #[] ∧ ∃ fq', PVm R B w' q fq' (putI p k n) ∧ Keep fq w w' ∧ ∀ k ∈ fq', k ∈ fq ∨ w.heap.size ≤ k := by
  obtain ⟨v, rfl, h⟩ := h
  obtain ⟨a, cap, rfl⟩ := h.row.form
  refine ret_of 48 Tryz.func83 rfl rfl (by simp) ?_
  refine au ?_
  refine pl_val _ rfl rfl (val_load1 hT rfl rfl rfl (h.blk.cell rfl)) ?_
  refine au ?_
  by_cases he : k = (p.1.length : Nat)
  · refine ye ?_
    refine au ?_
    refine pl_val _ rfl rfl (val_load1 hT rfl rfl rfl (h.blk.cell rfl)) ?_
    refine au ?_
    refine pl_op rfl rfl (opTo_sliceN tLg [.int .i64 n] rfl rfl (slice_lg n) ?_)
    intro w1 g hg hs1 hk1 hb1
    have h1 := h.keep0 hk1
    have hBw : B ≤ w1.heap.size := Nat.le_trans h1.ge (Nat.le_of_lt h1.blk.lt)
    refine pl_op rfl rfl (opTo_app B tLg 1 8 (lgs p.1) [.int .i64 n] rfl rfl rfl app_lg h1.row (hb1.range rfl) rfl (one_v rfl) (by decide) (by unfold maxLen; omega) (by omega) hBw ?_)
    intro g2 cap2 w2 hown2 hcase
    have hrow2 : RowL w2 B (.slice (some ⟨g2, 0, none⟩) (p.1.length + 1) cap2) (p.1 ++ [n]) := by
      have e1 : (p.1 ++ [n]).length = p.1.length + 1 := by simp
      have e2 : lgs (p.1 ++ [n]) = lgs p.1 ++ [.int .i64 n] := by rw [lgs_app]; rfl
      unfold RowL
      rw [e1, e2]
      exact hown2
    have hk2 : Keep (obs (.slice a p.1.length cap)) w1 w2 := by
      rcases hcase with ⟨h3, _, h4⟩ | ⟨_, h4, _⟩
      · rw [obs, h3]; exact h4
      · exact h4.of0
    have hob : ∀ x ∈ obs (.slice (some ⟨g2, 0, none⟩) (p.1.length + 1) cap2), x ∈ obs (.slice a p.1.length cap) ∨ w.heap.size ≤ x := fun x hx => by
      have hx : x = g2 := by simpa [obs, Value.ownBlock] using hx
      subst hx
      rcases hcase with ⟨h3, _, _⟩ | ⟨h3, _, _⟩
      · exact .inl (mem_obs.2 h3)
      · exact .inr (by omega)
    have hbk2 := hk2.blk h1.blk fun hm => h1.row.ne h1.blk nePL q hm (by simp)
    refine au ?_
    refine pl_op rfl rfl (opTo_storeN [.slice (some ⟨g2, 0, none⟩) (p.1.length + 1) cap2] rfl rfl rfl rfl size_ls hbk2 (by simp [prC]) (one_v rfl) ?_)
    intro w3 hs3 hk3 hb3
    refine au ?_
    refine rn_end Tryz.func83 (.inr (.inl ⟨rfl, rfl⟩)) ⟨rfl, q :: obs (.slice (some ⟨g2, 0, none⟩) (p.1.length + 1) cap2), ⟨_, rfl, ?_, ?_, h.ge, ?_, ?_⟩, ?_, ?_⟩
    · unfold putI
      rw [if_pos he]
      exact hb3
    · unfold putI
      rw [if_pos he]
      exact hrow2.keep hk3 (hrow2.ne hbk2 nePL)
    · intro k hR
      have := h.ro k hR
      have := hk1.size
      have := hk2.size
      omega
    · intro x hx hR
      rcases List.mem_cons.1 hx with rfl | hx
      · exact h.nr _ (by simp) hR
      · rcases hob x hx with h4 | h4
        · exact h.nr _ (by simp [h4]) hR
        · have := h.ro x hR; omega
    · refine (hk1.of0.trans hk2 fun x hx => .inl (by simp [hx])).trans hk3 fun x hx => .inl ?_
      rw [List.mem_singleton.1 hx]
      simp
    · intro x hx
      rcases List.mem_cons.1 hx with rfl | hx
      · exact .inl (by simp)
      · rcases hob x hx with h4 | h4
        · exact .inl (by simp [h4])
        · exact .inr h4
  · refine nay ?_
    have bad : ∀ {w3 : World}, ¬ (0 ≤ k ∧ p.1[k.toNat]? = some n) → w3.heap.size = w.heap.size → Keep [q] w w3 → Blk w3 q (splice (prC (.slice a p.1.length cap) p) 1 [.int .i64 15]) tPr → ∃ fq', PVm R B w3 q fq' (putI p k n) ∧ Keep (q :: obs (.slice a p.1.length cap)) w w3 ∧ ∀ x ∈ fq', x ∈ q :: obs (.slice a p.1.length cap) ∨ w.heap.size ≤ x := fun {w3} hc hs3 hk3 hb3 => by
      refine ⟨_, ⟨.slice a p.1.length cap, rfl, ?_, ?_, h.ge, ?_, h.nr⟩, ?_, fun x hx => .inl hx⟩
      · unfold putI
        rw [if_neg he, if_neg hc]
        exact hb3
      · unfold putI
        rw [if_neg he, if_neg hc]
        exact h.row.keep hk3 (h.row.ne h.blk nePL)
      · intro x hR
        rw [hs3]
        exact h.ro x hR
      · exact hk3.mono fun x hx => .inl (by rw [List.mem_singleton.1 hx]; simp)
    refine au ?_
    by_cases h0 : k < 0
    · refine ye ?_
      refine au ?_
      refine pl_op rfl rfl (opTo_storeN [.int .i64 15] rfl rfl rfl rfl size_in h.blk (by simp [prC]) (one_in _) ?_)
      intro w3 hs3 hk3 hb3
      refine au ?_
      exact rn_end Tryz.func83 (.inr (.inl ⟨rfl, rfl⟩)) ⟨rfl, bad (fun hc => by omega) hs3 hk3 hb3⟩
    · refine nay ?_
      refine au ?_
      by_cases h1 : k > (p.1.length : Nat)
      · refine ye ?_
        refine au ?_
        refine pl_op rfl rfl (opTo_storeN [.int .i64 15] rfl rfl rfl rfl size_in h.blk (by simp [prC]) (one_in _) ?_)
        intro w3 hs3 hk3 hb3
        refine au ?_
        exact rn_end Tryz.func83 (.inr (.inl ⟨rfl, rfl⟩)) ⟨rfl, bad (fun hc => by have := (List.getElem?_eq_some_iff.1 hc.2).1; omega) hs3 hk3 hb3⟩
      · refine nay ?_
        refine au ?_
        refine pl_val _ rfl rfl (val_load1 hT rfl rfl rfl (h.blk.cell rfl)) ?_
        obtain ⟨j, rfl⟩ : ∃ j : Nat, k = (j : Nat) := ⟨k.toNat, by omega⟩
        have hj : j < p.1.length := by omega
        obtain ⟨x, hxe⟩ : ∃ x, x = p.1[j] := ⟨_, rfl⟩
        have hx : p.1[j]? = some x := by rw [List.getElem?_eq_getElem hj, hxe]
        obtain ⟨g, cap', hv, hc⟩ := h.row.at hx
        cases hv
        refine au ?_
        refine pl_val _ rfl rfl (val_index j hT rfl rfl rfl rfl rfl hj w) ?_
        refine pl_val _ rfl rfl (val_load1 hT rfl rfl rfl ((by rw [Nat.zero_add, Nat.mul_one]; exact hc))) ?_
        refine au ?_
        by_cases hxn : x = n
        · refine nay ?_
          refine au ?_
          refine rn_end Tryz.func83 (.inr (.inl ⟨rfl, rfl⟩)) ⟨rfl, _, ⟨_, rfl, ?_⟩, Keep.refl _ _, fun x hx => .inl hx⟩
          unfold putI
          rw [if_neg he, if_pos ⟨by omega, by rw [Int.toNat_natCast, hx, hxn]⟩]
          exact h
        · refine ye ?_
          refine au ?_
          refine pl_op rfl rfl (opTo_storeN [.int .i64 15] rfl rfl rfl rfl size_in h.blk (by simp [prC]) (one_in _) ?_)
          intro w3 hs3 hk3 hb3
          refine au ?_
          exact rn_end Tryz.func83 (.inr (.inl ⟨rfl, rfl⟩)) ⟨rfl, bad (fun hc => by rw [Int.toNat_natCast, hx] at hc; exact hxn (Option.some.inj hc.2)) hs3 hk3 hb3⟩

theorem plist_ret (h : PVm R B w q fq p) (hl : p.1.length ≤ 100000) : Ret Tryz.prog 21 [.pointer (some ⟨q, 0, none⟩)] w fun r w' => RowL w' w.heap.size r p.1 ∧ Keep [] w w' := by
  obtain ⟨v, rfl, h⟩ := h
  obtain ⟨a, cap, rfl⟩ := h.row.form
  refine ret_of 8 Tryz.func21 rfl rfl (by simp) ?_
  refine au ?_
  refine pl_val _ rfl rfl (val_load1 hT rfl rfl rfl (h.blk.cell rfl)) ?_
  refine pl_op rfl rfl (opTo_call (fst := []) (cap := []) rfl rfl rfl rfl (by decide +kernel) ((cloneL_ret h.row.lies (by omega)).mono ?_))
  rintro r w1 ⟨hr, hk⟩
  refine au ?_
  exact rn_ret Tryz.func21 (.inl ⟨_, rfl, rfl⟩) ⟨hr, hk⟩

theorem pcode_ret (h : PVm R B w q fq p) : Ret Tryz.prog 22 [.pointer (some ⟨q, 0, none⟩)] w fun r w' => r = .int .i64 (if p.2 then 15 else 0) ∧ w' = w := by
  obtain ⟨v, rfl, h⟩ := h
  refine ret_of 7 Tryz.func22 rfl rfl (by simp) ?_
  refine au ?_
  refine pl_val _ rfl rfl (val_load1 hT rfl rfl rfl (h.blk.cell rfl)) ?_
  refine au ?_
  exact rn_ret Tryz.func22 (.inl ⟨_, rfl, rfl⟩) ⟨rfl, rfl⟩
end
end E
end Go.Proofs.YtdodmemljdhpnaeGreat

/- The landed machine, as it lies in memory; its words; contracts of goes, next, push, pop, cell, setCell, jump, stop. -/
namespace Go.Proofs.YtdodmemljdhpnaeGreat
set_option maxRecDepth 20000
set_option maxHeartbeats 4000000
namespace E
open Go.Proofs

abbrev tMa : Nat := 75
theorem neML : tMa ≠ tLg := by decide
theorem neMP : tMa ≠ tPr := by decide
def maC (m : Nat) (cv iv : Value) (q : Nat) (left : Int) (torn : Bool) : List Value := [.pointer (some ⟨m, 0, none⟩), cv, iv, .pointer (some ⟨q, 0, none⟩), .int .i64 left, .bool torn]

/-- What is known of a machine beside its mind. -/
structure Mo where
  L : List Is
  inp : List Int
  m : Nat
  q : Nat
  pr : Pr
  left : Int
  torn : Bool
  gen : Int
def Mx.o (M : Mx) : Mo := ⟨M.L, M.inp, M.m, M.q, M.pr, M.left, M.torn, M.gen⟩
def fpV (x d s m : Nat) (wv : Value) (q : Nat) (pv iv : Value) : List Nat := x :: (fpM d s m wv ++ ((q :: obs pv) ++ obs iv))
theorem mem_fpV {x d s m q k : Nat} {wv pv iv : Value} : k ∈ fpV x d s m wv q pv iv ↔ k = x ∨ k = m ∨ k = s ∨ k ∈ fpD d wv ∨ k ∈ q :: obs pv ∨ k ∈ obs iv := by
  unfold fpV fpM
  simp only [List.mem_cons, List.mem_append, or_assoc]

/-- A machine at x. -/
structure Mv (R : Nat → Prop) (B : Nat) (w : World) (x : Nat) (O : Mo) (d s : Nat) (S W : List Int) (D : List Bool) (wv cv iv pv : Value) : Prop where
  st : St B w d s O.m S W D wv
  hs : B ≤ s
  gen : genS S = O.gen
  pr : Pv R B w O.q pv O.pr
  blk : Blk w x (maC O.m cv iv O.q O.left O.torn) tMa
  code : InsV R w cv O.L
  inp : RowL w B iv O.inp
  hx : B ≤ x
  apt : Apt pv iv
  nr : ∀ k ∈ fpV x d s O.m wv O.q pv iv, ¬ R k
/-- A machine at x, of whose words E is true. -/
def Vx (R : Nat → Prop) (B : Nat) (w : World) (x : Nat) (fp : List Nat) (O : Mo) (E : List Int → Prop) : Prop := ∃ d s S W D wv cv iv pv, fp = fpV x d s O.m wv O.q pv iv ∧ Mv R B w x O d s S W D wv cv iv pv ∧ E W
def Vm (R : Nat → Prop) (B : Nat) (w : World) (x : Nat) (fp : List Nat) (M : Mx) : Prop := Vx R B w x fp M.o fun W => Enc W M.md

section
variable {R : Nat → Prop} {B : Nat} {w w' : World} {x d s : Nat} {fp fp2 : List Nat} {O : Mo} {S W : List Int} {D : List Bool} {wv cv iv pv : Value} {E E' : List Int → Prop}
theorem Mv.lt (h : Mv R B w x O d s S W D wv cv iv pv) : ∀ k ∈ fpV x d s O.m wv O.q pv iv, B ≤ k ∧ k < w.heap.size ∧ ¬ R k := fun k hk => by
  have hn := h.nr k hk
  refine ⟨?_, ?_, hn⟩
  · rcases mem_fpV.1 hk with rfl | rfl | rfl | hk | hk | hk
    · exact h.hx
    · exact h.st.hm
    · exact h.hs
    · exact (h.st.dsk.lt k hk).1
    · exact (h.pr.lt k hk).1
    · exact (h.inp.lt k hk).1
  · rcases mem_fpV.1 hk with rfl | rfl | rfl | hk | hk | hk
    · exact h.blk.lt
    · exact h.st.mem.blk.lt
    · exact Blk.lt h.st.sto
    · exact (h.st.dsk.lt k hk).2
    · exact (h.pr.lt k hk).2.1
    · exact (h.inp.lt k hk).2
theorem Mv.keep (h : Mv R B w x O d s S W D wv cv iv pv) (hk : Keep fp2 w w') (hn : ∀ k ∈ fp2, ¬ R k ∧ k ∉ fpV x d s O.m wv O.q pv iv) : Mv R B w' x O d s S W D wv cv iv pv := by
  have hx : ∀ k, k ∈ fpV x d s O.m wv O.q pv iv → k ∉ fp2 := fun k hk hm => (hn k hm).2 hk
  refine ⟨⟨h.st.mem.keep hk (hx _ (mem_fpV.2 (.inr (.inl rfl)))), hk.blk h.st.sto (hx _ (mem_fpV.2 (.inr (.inr (.inl rfl))))), h.st.dsk.keep hk fun k hk => hx _ (mem_fpV.2 (.inr (.inr (.inr (.inl hk))))), h.st.good, h.st.tied, h.st.hm⟩, h.hs, h.gen,
    h.pr.keep hk fun k hm hq => (hn k hm).2 (mem_fpV.2 (.inr (.inr (.inr (.inr (.inl hq)))))), hk.blk h.blk (hx _ (mem_fpV.2 (.inl rfl))), h.code.keep hk fun c hR => ⟨h.pr.ro c hR, fun hm => (hn c hm).1 hR⟩,
    h.inp.keep hk fun k hq => hx _ (mem_fpV.2 (.inr (.inr (.inr (.inr (.inr hq)))))), h.hx, h.apt, h.nr⟩
theorem Vx.lt (h : Vx R B w x fp O E) : ∀ k ∈ fp, B ≤ k ∧ k < w.heap.size ∧ ¬ R k := by
  obtain ⟨d, s, S, W, D, wv, cv, iv, pv, rfl, h, _⟩ := h
  exact h.lt
theorem Vx.in (h : Vx R B w x fp O E) : x ∈ fp := by
  obtain ⟨d, s, S, W, D, wv, cv, iv, pv, rfl, h, _⟩ := h
  exact mem_fpV.2 (.inl rfl)
theorem Vx.mIn (h : Vx R B w x fp O E) : O.m ∈ fp := by
  obtain ⟨d, s, S, W, D, wv, cv, iv, pv, rfl, h, _⟩ := h
  exact mem_fpV.2 (.inr (.inl rfl))
theorem Vx.keep (h : Vx R B w x fp O E) (hk : Keep fp2 w w') (hn : ∀ k ∈ fp2, ¬ R k ∧ k ∉ fp) : Vx R B w' x fp O E := by
  obtain ⟨d, s, S, W, D, wv, cv, iv, pv, rfl, h, he⟩ := h
  exact ⟨d, s, S, W, D, wv, cv, iv, pv, rfl, h.keep hk hn, he⟩
theorem Vx.keep0 (h : Vx R B w x fp O E) (hk : Keep [] w w') : Vx R B w' x fp O E := h.keep hk fun k hk => by cases hk
theorem Vx.mono (h : Vx R B w x fp O E) (he : ∀ W, W.length = 112 → E W → E' W) : Vx R B w x fp O E' := by
  obtain ⟨d, s, S, W, D, wv, cv, iv, pv, rfl, h, e⟩ := h
  exact ⟨d, s, S, W, D, wv, cv, iv, pv, rfl, h, he W h.st.mem.wl e⟩
theorem Vx.ptr (h : Vx R B w x fp O E) : w.cell? ⟨x, 0, none⟩ = some (.pointer (some ⟨O.m, 0, none⟩)) := by
  obtain ⟨d, s, S, W, D, wv, cv, iv, pv, rfl, h, _⟩ := h
  exact h.blk.cell rfl
theorem Vx.prt (h : Vx R B w x fp O E) : w.cell? ⟨x, 3, none⟩ = some (.pointer (some ⟨O.q, 0, none⟩)) := by
  obtain ⟨d, s, S, W, D, wv, cv, iv, pv, rfl, h, _⟩ := h
  exact h.blk.cell rfl
theorem Vx.bk (h : Vx R B w x fp O E) : ∃ cv iv, Blk w x (maC O.m cv iv O.q O.left O.torn) tMa ∧ InsV R w cv O.L ∧ RowL w B iv O.inp ∧ ∀ k, R k → k < w.heap.size := by
  obtain ⟨d, s, S, W, D, wv, cv, iv, pv, rfl, h, _⟩ := h
  exact ⟨cv, iv, h.blk, h.code, h.inp, h.pr.ro⟩
theorem Vx.load (h : Vx R B w x fp O E) (i : Int) (v : Int) (he : ∀ W, W.length = 112 → E W → loadW W i = v) : Ret Tryz.prog 34 [.pointer (some ⟨O.m, 0, none⟩), .int .i64 i] w fun r w' => r = .int .i64 v ∧ w' = w := by
  obtain ⟨d, s, S, W, D, wv, cv, iv, pv, rfl, h, e⟩ := h
  rw [← he W h.st.mem.wl e]
  exact load_ret h.st.mem i
theorem Vx.put (h : Vx R B w x fp O E) (i v : Int) (he : ∀ W, W.length = 112 → E W → E' (putW W i v)) : Ret Tryz.prog 33 [.pointer (some ⟨O.m, 0, none⟩), .int .i64 i, .int .i64 v] w fun r w' => r = .bool (hasM i) ∧ Vx R B w' x fp O E' ∧ Keep [O.m] w w' := by
  obtain ⟨d, s, S, W, D, wv, cv, iv, pv, rfl, h, e⟩ := h
  refine (puts_ret h.st i v).mono ?_
  rintro r w1 ⟨rfl, h1, hk1⟩
  refine ⟨rfl, ⟨d, s, S, _, _, wv, cv, iv, pv, rfl, ⟨h1, h.hs, h.gen, ?_, ?_, ?_, ?_, h.hx, h.apt, h.nr⟩, he W h.st.mem.wl e⟩, hk1⟩
  · refine h.pr.keep hk1 fun k hm hq => ?_
    rw [List.mem_singleton.1 hm] at hq
    rcases List.mem_cons.1 hq with hq | hq
    · exact Blk.ne h.st.mem.blk h.pr.blk (by decide) hq
    · exact h.pr.row.ne h.st.mem.blk (by decide) _ hq (by simp)
  · exact hk1.blk h.blk (by simp; exact Blk.ne h.blk h.st.mem.blk (by decide))
  · refine h.code.keep hk1 fun c hR => ⟨h.pr.ro c hR, fun hm => ?_⟩
    rw [List.mem_singleton.1 hm] at hR
    exact h.nr _ (mem_fpV.2 (.inr (.inl rfl))) hR
  · exact h.inp.keep hk1 (h.inp.ne h.st.mem.blk (by decide))
end

/-! ### Its words -/
theorem loadW_at {W : List Int} {i : Nat} {v : Int} (h : W[i]? = some v) (hi : i < 112) : loadW W ((i : Nat) : Int) = v := by
  have hm : hasM ((i : Nat) : Int) = true := by simp [hasM]; omega
  unfold loadW
  rw [hm, if_pos rfl, Int.toNat_natCast, List.getD_eq_getElem?_getD, h]
  rfl
theorem putW_at (W : List Int) {i : Nat} (v : Int) (hi : i < 112) : putW W ((i : Nat) : Int) v = W.set i v := by
  have hm : hasM ((i : Nat) : Int) = true := by simp [hasM]; omega
  unfold putW
  rw [hm, if_pos rfl, Int.toNat_natCast]
theorem set_at {W : List Int} (hl : W.length = 112) {i : Nat} (hi : i < 112) (v : Int) : (W.set i v)[i]? = some v := by
  rw [List.getElem?_set, if_pos rfl, if_pos (by omega)]
theorem set_off {W : List Int} {i j : Nat} (h : i ≠ j) (v : Int) : (W.set i v)[j]? = W[j]? := by rw [List.getElem?_set, if_neg h]
section
variable {W : List Int} {m : Md}
theorem enc_next (h : Enc W m) (hl : W.length = 112) (n : Nat) : Enc (W.set 0 (n : Int)) { m with next := n } :=
  ⟨set_at hl (by decide) _, (set_off (by decide) _).trans h.many, (set_off (by decide) _).trans h.read, (set_off (by decide) _).trans h.out, (set_off (by decide) _).trans h.state, fun i x hi => (set_off (by omega) _).trans (h.cells i x hi), fun i x hi => (set_off (by omega) _).trans (h.stack i x hi)⟩
theorem enc_many (h : Enc W m) (hl : W.length = 112) {s : List Int} {k : Int} (hk : k = (s.length : Nat)) (hs : ∀ i x, s[i]? = some x → W[53 + i]? = some x) : Enc (W.set 1 k) { m with stack := s } :=
  ⟨(set_off (by decide) _).trans h.next, by rw [set_at hl (by decide), hk], (set_off (by decide) _).trans h.read, (set_off (by decide) _).trans h.out, (set_off (by decide) _).trans h.state, fun i x hi => (set_off (by omega) _).trans (h.cells i x hi), fun i x hi => (set_off (by omega) _).trans (hs i x hi)⟩
theorem enc_read (h : Enc W m) (hl : W.length = 112) {k : Int} {n : Nat} (hk : k = (n : Nat)) : Enc (W.set 2 k) { m with read := n } :=
  ⟨(set_off (by decide) _).trans h.next, (set_off (by decide) _).trans h.many, by rw [set_at hl (by decide), hk], (set_off (by decide) _).trans h.out, (set_off (by decide) _).trans h.state, fun i x hi => (set_off (by omega) _).trans (h.cells i x hi), fun i x hi => (set_off (by omega) _).trans (h.stack i x hi)⟩
theorem enc_out (h : Enc W m) (hl : W.length = 112) {k : Int} {n : Nat} (hk : k = (n : Nat)) : Enc (W.set 3 k) { m with out := n } :=
  ⟨(set_off (by decide) _).trans h.next, (set_off (by decide) _).trans h.many, (set_off (by decide) _).trans h.read, by rw [set_at hl (by decide), hk], (set_off (by decide) _).trans h.state, fun i x hi => (set_off (by omega) _).trans (h.cells i x hi), fun i x hi => (set_off (by omega) _).trans (h.stack i x hi)⟩
theorem enc_state (h : Enc W m) (hl : W.length = 112) {k : Int} {n : Nat} (hk : k = (n : Nat)) : Enc (W.set 4 k) { m with state := n } :=
  ⟨(set_off (by decide) _).trans h.next, (set_off (by decide) _).trans h.many, (set_off (by decide) _).trans h.read, (set_off (by decide) _).trans h.out, by rw [set_at hl (by decide), hk], fun i x hi => (set_off (by omega) _).trans (h.cells i x hi), fun i x hi => (set_off (by omega) _).trans (h.stack i x hi)⟩
theorem enc_cell (h : Enc W m) (hl : W.length = 112) (hc : m.cells.length ≤ 48) {a : Nat} (ha : a < m.cells.length) (n : Int) : Enc (W.set (5 + a) n) { m with cells := m.cells.set a n } := by
  refine ⟨(set_off (by omega) _).trans h.next, (set_off (by omega) _).trans h.many, (set_off (by omega) _).trans h.read, (set_off (by omega) _).trans h.out, (set_off (by omega) _).trans h.state, fun i x hi => ?_, fun i x hi => (set_off (by omega) _).trans (h.stack i x hi)⟩
  simp only [List.getElem?_set] at hi
  by_cases e : a = i
  · subst e
    rw [if_pos rfl, if_pos ha] at hi
    cases hi
    exact set_at hl (by omega) _
  · rw [if_neg e] at hi
    exact (set_off (by omega) _).trans (h.cells i x hi)
theorem enc_top (h : Enc W m) (hc : m.cells.length ≤ 48) (n : Int) : Enc (W.set (53 + m.stack.length) n) m := by
  refine ⟨(set_off (by omega) _).trans h.next, (set_off (by omega) _).trans h.many, (set_off (by omega) _).trans h.read, (set_off (by omega) _).trans h.out, (set_off (by omega) _).trans h.state, fun i x hi => ?_, fun i x hi => ?_⟩
  · have := (List.getElem?_eq_some_iff.1 hi).1
    exact (set_off (by omega) _).trans (h.cells i x hi)
  · have := (List.getElem?_eq_some_iff.1 hi).1
    exact (set_off (by omega) _).trans (h.stack i x hi)
end

/-! ### Its methods -/
theorem built_mi (a : Int) : Tryz.prog.built 72 [(0, .int .i64 a)] = some (iC (a, 0, 0, 0)).toArray := by kernel_rfl
theorem zero_is : ((Tryz.prog.info? 72).bind (·.zero)).map (·.cells) = some (iC (0, 0, 0, 0)).toArray := by kernel_rfl
theorem size_is : sizeOk Tryz.prog 72 4 = true := by kernel_rfl
section
variable {R : Nat → Prop} {B : Nat} {w : World} {x : Nat} {fp : List Nat} {M : Mx}

theorem goes_ret (h : Vm R B w x fp M) : Ret Tryz.prog 31 [.pointer (some ⟨x, 0, none⟩)] w fun r w' => r = .bool (decide (M.md.state = 0)) ∧ w' = w := by
  refine ret_of 9 Tryz.func31 rfl rfl (by simp) ?_
  refine au ?_
  refine pl_val _ rfl rfl (val_load1 hT rfl rfl rfl (h.ptr)) ?_
  refine pl_op rfl rfl (opTo_call (fst := []) (cap := []) rfl rfl rfl rfl (by decide +kernel) ((h.load 4 (M.md.state : Nat) fun W hl e => loadW_at e.state (by decide)).mono ?_))
  rintro r w1 ⟨rfl, hww⟩
  rw [hww]
  by_cases hs : M.md.state = 0
  · refine ye ?_
    refine au ?_
    exact rn_ret Tryz.func31 (.inl ⟨_, rfl, rfl⟩) ⟨by simp [hs], rfl⟩
  · refine nay ?_
    refine au ?_
    exact rn_ret Tryz.func31 (.inl ⟨_, rfl, rfl⟩) ⟨by simp [hs], rfl⟩

theorem mcnext_ret (h : Vm R B w x fp M) {i : Is} (hi : M.L[M.md.next]? = some i) : Ret Tryz.prog 32 [.pointer (some ⟨x, 0, none⟩)] w fun r w' => r = .agg (iC i).toArray ∧ Keep [] w w' := by
  have hn : M.md.next < M.L.length := (List.getElem?_eq_some_iff.1 hi).1
  refine ret_of 28 Tryz.func32 rfl rfl (by simp) ?_
  refine au ?_
  refine pl_op rfl rfl (opTo_allocN _ rfl zero_is ?_)
  intro w1 x1 hx1 hs1 hk1 hb1
  have h1 := h.keep0 hk1
  obtain ⟨cv, iv, hbk, hcd, _, hro⟩ := h1.bk
  obtain ⟨cb, cq, ccap, rfl, hcF, hcr⟩ := hcd.at hi
  refine au ?_
  refine pl_val _ rfl rfl (val_load1 hT rfl rfl rfl (h1.ptr)) ?_
  refine pl_op rfl rfl (opTo_call (fst := []) (cap := []) rfl rfl rfl rfl (by decide +kernel) ((h1.load 0 (M.md.next : Nat) fun W hl e => loadW_at e.next (by decide)).mono ?_))
  rintro r w1' ⟨rfl, hww⟩
  rw [hww]
  refine au ?_
  refine nay ?_
  refine au ?_
  refine pl_val _ rfl rfl (val_load1 hT rfl rfl rfl (hbk.cell rfl)) ?_
  refine au ?_
  have hn' : M.md.next < M.o.L.length := hn
  refine nay ?_
  refine au ?_
  refine pl_val _ rfl rfl (val_load1 hT rfl rfl rfl (hbk.cell rfl)) ?_
  refine au ?_
  refine pl_val _ rfl rfl (val_index M.md.next hT rfl rfl rfl rfl rfl hn' w1) ?_
  refine pl_val (.agg (iC i).toArray) rfl rfl (val_load (iC i) hT rfl rfl rfl hcr) ?_
  refine pl_op rfl rfl (opTo_storeN (iC i) rfl rfl rfl rfl size_is hb1 (by simp [iC]) (iC_one _) ?_)
  intro w2 hs2 hk2 hb2
  rw [splice_whole (by rfl)] at hb2
  refine au ?_
  exact rn_ret Tryz.func32 (.inr (.inr (.inl ⟨_, _, _, rfl, rfl, blk_loadVar hT hb2 rfl⟩))) ⟨rfl, hk1.trB hk2 (by omega)⟩

theorem mpush_ret (h : Vm R B w x fp M) (hs : M.md.stack.length ≤ 58) (hc : M.md.cells.length ≤ 48) (n : Int) : Ret Tryz.prog 54 [.pointer (some ⟨x, 0, none⟩), .int .i64 n] w fun r w' => r = .tuple #[] ∧ Vm R B w' x fp { M with md := { M.md with stack := M.md.stack ++ [n] } } ∧ Keep [M.m] w w' := by
  refine ret_of 25 Tryz.func54 rfl rfl (by simp) ?_
  refine au ?_
  refine pl_val _ rfl rfl (val_load1 hT rfl rfl rfl (h.ptr)) ?_
  refine pl_op rfl rfl (opTo_call (fst := []) (cap := []) rfl rfl rfl rfl (by decide +kernel) ((h.load 1 (M.md.stack.length : Nat) fun W hl e => loadW_at e.many (by decide)).mono ?_))
  rintro r w1 ⟨rfl, hww⟩
  rw [hww]
  refine au ?_
  refine pl_val _ rfl rfl (val_load1 hT rfl rfl rfl (h.ptr)) ?_
  refine au ?_
  refine pl_num (((53 + M.md.stack.length : Nat) : Int)) rfl rfl rfl rfl rfl (by simp only [ariP]; omega) ?_
  refine au ?_
  refine pl_op rfl rfl (opTo_call (fst := []) (cap := []) rfl rfl rfl rfl (by decide +kernel) ((h.put (E' := fun W => Enc W M.md ∧ W[53 + M.md.stack.length]? = some n) ((53 + M.md.stack.length : Nat) : Int) n fun W hl e => by
    rw [putW_at W n (by omega)]
    exact ⟨enc_top e hc n, set_at hl (by omega) n⟩).mono ?_))
  rintro r w2 ⟨rfl, h2, hk2⟩
  refine au ?_
  refine pl_val _ rfl rfl (val_load1 hT rfl rfl rfl (h2.ptr)) ?_
  refine au ?_
  refine pl_num (((M.md.stack.length + 1 : Nat) : Int)) rfl rfl rfl rfl rfl (by simp only [ariP]; omega) ?_
  refine pl_op rfl rfl (opTo_call (fst := []) (cap := []) rfl rfl rfl rfl (by decide +kernel) ((h2.put (E' := fun W => Enc W { M.md with stack := M.md.stack ++ [n] }) 1 ((M.md.stack.length + 1 : Nat) : Int) fun W hl e => by
    rw [show (1 : Int) = ((1 : Nat) : Int) from rfl, putW_at W _ (by decide)]
    refine enc_many e.1 hl (by simp) fun i v hi => ?_
    rw [List.getElem?_append] at hi
    split at hi
    · exact e.1.stack i v hi
    · have hj := (List.getElem?_eq_some_iff.1 hi).1
      simp only [List.length_cons, List.length_nil] at hj
      rw [show i - M.md.stack.length = 0 by omega] at hi
      rw [show i = M.md.stack.length by omega, e.2]
      exact hi).mono ?_))
  rintro r w3 ⟨rfl, h3, hk3⟩
  refine au ?_
  exact rn_end Tryz.func54 (.inr (.inl ⟨rfl, rfl⟩)) ⟨rfl, h3, hk2.tr hk3⟩

theorem mpop_ret (h : Vm R B w x fp M) (h0 : 1 ≤ M.md.stack.length) (hs : M.md.stack.length ≤ 59) : Ret Tryz.prog 56 [.pointer (some ⟨x, 0, none⟩)] w fun r w' => r = .int .i64 (topS M.md.stack) ∧ Vm R B w' x fp { M with md := { M.md with stack := M.md.stack.dropLast } } ∧ Keep [M.m] w w' := by
  obtain ⟨k, hk⟩ : ∃ k, M.md.stack.length = k + 1 := ⟨M.md.stack.length - 1, by omega⟩
  refine ret_of 23 Tryz.func56 rfl rfl (by simp) ?_
  refine au ?_
  refine pl_val _ rfl rfl (val_load1 hT rfl rfl rfl (h.ptr)) ?_
  refine pl_op rfl rfl (opTo_call (fst := []) (cap := []) rfl rfl rfl rfl (by decide +kernel) ((h.load 1 (M.md.stack.length : Nat) fun W hl e => loadW_at e.many (by decide)).mono ?_))
  rintro r w1 ⟨rfl, hww⟩
  rw [hww]
  refine pl_num (((k : Nat) : Int)) rfl rfl rfl rfl rfl (by simp only [ariP]; omega) ?_
  refine au ?_
  refine pl_val _ rfl rfl (val_load1 hT rfl rfl rfl (h.ptr)) ?_
  refine au ?_
  refine pl_op rfl rfl (opTo_call (fst := []) (cap := []) rfl rfl rfl rfl (by decide +kernel) ((h.put (E' := fun W => Enc W { M.md with stack := M.md.stack.dropLast } ∧ W[53 + k]? = some (topS M.md.stack)) 1 ((k : Nat) : Int) fun W hl e => by
    rw [show (1 : Int) = ((1 : Nat) : Int) from rfl, putW_at W _ (by decide)]
    refine ⟨enc_many e hl (by simp; omega) fun i v hi => ?_, (set_off (by omega) _).trans (e.stack k _ (topS_at hk))⟩
    rw [List.getElem?_dropLast] at hi
    split at hi
    · exact e.stack i v hi
    · cases hi).mono ?_))
  rintro r w2 ⟨rfl, h2, hk2⟩
  refine au ?_
  refine pl_val _ rfl rfl (val_load1 hT rfl rfl rfl (h2.ptr)) ?_
  refine au ?_
  refine pl_num (((53 + k : Nat) : Int)) rfl rfl rfl rfl rfl (by simp only [ariP]; omega) ?_
  refine pl_op rfl rfl (opTo_call (fst := []) (cap := []) rfl rfl rfl rfl (by decide +kernel) ((h2.load ((53 + k : Nat) : Int) (topS M.md.stack) fun W hl e => loadW_at e.2 (by omega)).mono ?_))
  rintro r w3 ⟨rfl, hww⟩
  rw [hww]
  refine au ?_
  exact rn_ret Tryz.func56 (.inl ⟨_, rfl, rfl⟩) ⟨rfl, h2.mono fun W _ e => e.1, hk2⟩

theorem mcell_at (h : Vm R B w x fp M) (hc : M.md.cells.length ≤ 48) {a : Nat} (ha : a < M.md.cells.length) : Ret Tryz.prog 41 [.pointer (some ⟨x, 0, none⟩), .int .i64 (a : Nat)] w fun r w' => r = .int .i64 (cellAt M.md.cells ((a : Nat) : Int)) ∧ w' = w := by
  refine ret_of 12 Tryz.func41 rfl rfl (by simp) ?_
  refine au ?_
  refine pl_val _ rfl rfl (val_load1 hT rfl rfl rfl (h.ptr)) ?_
  refine au ?_
  refine pl_num (((5 + a : Nat) : Int)) rfl rfl rfl rfl rfl (by simp only [ariP]; omega) ?_
  refine pl_op rfl rfl (opTo_call (fst := []) (cap := []) rfl rfl rfl rfl (by decide +kernel) ((h.load ((5 + a : Nat) : Int) (cellAt M.md.cells ((a : Nat) : Int)) fun W hl e => loadW_at (e.cells a _ (cellAt_nat ha)) (by omega)).mono ?_))
  rintro r w1 ⟨rfl, hww⟩
  rw [hww]
  refine au ?_
  exact rn_ret Tryz.func41 (.inl ⟨_, rfl, rfl⟩) ⟨rfl, rfl⟩

theorem msetCell_ret (h : Vm R B w x fp M) (hc : M.md.cells.length ≤ 48) {a : Nat} (ha : a < M.md.cells.length) (n : Int) : Ret Tryz.prog 58 [.pointer (some ⟨x, 0, none⟩), .int .i64 (a : Nat), .int .i64 n] w fun r w' => r = .tuple #[] ∧ Vm R B w' x fp { M with md := { M.md with cells := M.md.cells.set a n } } ∧ Keep [M.m] w w' := by
  refine ret_of 14 Tryz.func58 rfl rfl (by simp) ?_
  refine au ?_
  refine pl_val _ rfl rfl (val_load1 hT rfl rfl rfl (h.ptr)) ?_
  refine au ?_
  refine pl_num (((5 + a : Nat) : Int)) rfl rfl rfl rfl rfl (by simp only [ariP]; omega) ?_
  refine au ?_
  refine pl_op rfl rfl (opTo_call (fst := []) (cap := []) rfl rfl rfl rfl (by decide +kernel) ((h.put (E' := fun W => Enc W { M.md with cells := M.md.cells.set a n }) ((5 + a : Nat) : Int) n fun W hl e => by
    rw [putW_at W n (by omega)]
    exact enc_cell e hl hc ha n).mono ?_))
  rintro r w2 ⟨rfl, h2, hk2⟩
  refine au ?_
  exact rn_end Tryz.func58 (.inr (.inl ⟨rfl, rfl⟩)) ⟨rfl, h2, hk2⟩

theorem mjump_ret (h : Vm R B w x fp M) (t : Nat) : Ret Tryz.prog 62 [.pointer (some ⟨x, 0, none⟩), .int .i64 (t : Nat)] w fun r w' => r = .tuple #[] ∧ Vm R B w' x fp { M with md := { M.md with next := t } } ∧ Keep [M.m] w w' := by
  refine ret_of 10 Tryz.func62 rfl rfl (by simp) ?_
  refine au ?_
  refine pl_val _ rfl rfl (val_load1 hT rfl rfl rfl (h.ptr)) ?_
  refine au ?_
  refine pl_op rfl rfl (opTo_call (fst := []) (cap := []) rfl rfl rfl rfl (by decide +kernel) ((h.put (E' := fun W => Enc W { M.md with next := t }) 0 (t : Nat) fun W hl e => by
    rw [show (0 : Int) = ((0 : Nat) : Int) from rfl, putW_at W _ (by decide)]
    exact enc_next e hl t).mono ?_))
  rintro r w2 ⟨rfl, h2, hk2⟩
  refine au ?_
  exact rn_end Tryz.func62 (.inr (.inl ⟨rfl, rfl⟩)) ⟨rfl, h2, hk2⟩

theorem mstop_ret (h : Vm R B w x fp M) (t : Nat) (ht : t ≤ 1000) : Ret Tryz.prog 81 [.pointer (some ⟨x, 0, none⟩), .int .i64 (t : Nat)] w fun r w' => r = .tuple #[] ∧ Vm R B w' x fp { M with md := { M.md with state := t + 2 } } ∧ Keep [M.m] w w' := by
  refine ret_of 11 Tryz.func81 rfl rfl (by simp) ?_
  refine au ?_
  refine pl_val _ rfl rfl (val_load1 hT rfl rfl rfl (h.ptr)) ?_
  refine au ?_
  refine pl_num (((t + 2 : Nat) : Int)) rfl rfl rfl rfl rfl (by simp only [ariP]; omega) ?_
  refine pl_op rfl rfl (opTo_call (fst := []) (cap := []) rfl rfl rfl rfl (by decide +kernel) ((h.put (E' := fun W => Enc W { M.md with state := t + 2 }) 4 ((t + 2 : Nat) : Int) fun W hl e => by
    rw [show (4 : Int) = ((4 : Nat) : Int) from rfl, putW_at W _ (by decide)]
    exact enc_state e hl rfl).mono ?_))
  rintro r w2 ⟨rfl, h2, hk2⟩
  refine au ?_
  exact rn_end Tryz.func81 (.inr (.inl ⟨rfl, rfl⟩)) ⟨rfl, h2, hk2⟩
end
end E
end Go.Proofs.YtdodmemljdhpnaeGreat
