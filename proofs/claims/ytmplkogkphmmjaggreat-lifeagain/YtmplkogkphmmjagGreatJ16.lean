/- Several texts in one: LkF, LiftC. -/
import Derived.Test.YtmplkogkphmmjagGreatJ15
import Derived.Test.YtmplkogkphmmjagGreatJ04
/- The landed life: Run; what is to be shown of package life. -/
namespace Go.Proofs.YtmplkogkphmmjagGreat
set_option maxRecDepth 20000
set_option maxHeartbeats 4000000
namespace E
open Go.Proofs

theorem built_lr0 : Tryz.prog.built 45 [] = some (resC 0 (.slice none 0 0) (.slice none 0 0)).toArray := by kernel_rfl
theorem built_last (f : Int) : Tryz.prog.built tSt [(0, .int .i64 1), (1, .int .i64 f)] = some (spC (1, f, 0, 0)).toArray := by kernel_rfl
theorem zero_lst : ((Tryz.prog.info? tSt).bind (·.zero)).map (·.cells) = some (spC (0, 0, 0, 0)).toArray := by kernel_rfl
theorem size_lst : sizeOk Tryz.prog tSt 4 = true := by kernel_rfl
theorem slice_last (f : Int) : sliceCells Tryz.prog 27 1 [(0, .agg (spC (1, f, 0, 0)).toArray)] = some (tSt, ([(1, f, 0, 0)].flatMap spC).toArray) := by kernel_rfl
theorem slice_two (a b : Option Addr) (n c m d : Nat) : sliceCells Tryz.prog 123 2 [(0, .slice a n c), (1, .slice b m d)] = some (27, [Value.slice a n c, .slice b m d].toArray) := by kernel_rfl
theorem nwl_nil (w : World) : Nw w (.slice none 0 0) := fun b q n c h => by cases h
theorem lsv_nil (w : World) : LsV w (.slice none 0 0) [] := ⟨none, 0, rfl, fun h => absurd h (by simp)⟩

theorem lives_last (W : List Is) (inp : List Int) (s : Sp) : ∀ (l : List Sp) (x : Lf), livesL W inp (l ++ [s]) x = if spFault s = 0 then (doSp W inp s (livesL W inp l x)).1 else livesL W inp l x
  | [], x => rfl
  | a :: r, x => by simp only [List.cons_append, livesL, lives_last W inp s r]
theorem bad_app : ∀ (l r : List Sp), badL (l ++ r) = if badL l = 0 then badL r else badL l
  | [], r => by simp [badL]
  | a :: t, r => by
    have e1 : ∀ q : List Sp, badL (a :: q) = if spFault a = 0 then badL q else spFault a := fun q => rfl
    rw [List.cons_append, e1, e1, bad_app t r]
    by_cases h : spFault a = 0
    · simp only [h, if_true]
    · simp only [h, if_false]
theorem bad_one (s : Sp) : badL [s] = spFault s := by
  simp only [badL]
  by_cases h : spFault s = 0
  · rw [if_pos h, h]
  · rw [if_neg h]
theorem last_fault (f : Int) : spFault (1, f, 0, 0) = if 0 ≤ f ∧ f ≤ 3000 then 0 else 1 := by
  unfold spFault
  simp only
  rw [if_neg (by omega)]
  by_cases h : 0 ≤ f ∧ f ≤ 3000
  · rw [if_pos h, if_neg (by omega)]
  · rw [if_neg h, if_pos (by omega)]
theorem doZS_lf (W : List Is) (inp : List Int) {s : Sp} (h : spFault s = 0) (z : Lz) : (doZS nwL W inp s z).1.lf = (doSp W inp s z.lf).1 := by
  unfold doZS
  rw [if_pos h]
  exact (doZ_lf _ _ _ _).1
theorem runF_end {vs : List VarT} {body : List ST} {inp : List Int} {l : List Sp} {fuel : Int} (h1 : l.length ≤ 100) (h2 : newF vs body inp = 0) (h3 : badL (l ++ [(1, fuel, 0, 0)]) = 0) {x : Lf} (hx : x = livesL (insP vs body) inp (l ++ [(1, fuel, 0, 0)]) (lf0 (sumV vs).toNat)) :
    runF vs body inp l fuel = ⟨codeB x.m x.p, x.p.1, x.m.cells, 0, 0⟩ := by
  rw [bad_app, bad_one] at h3
  have h4 : badL l = 0 := by
    by_cases h : badL l = 0
    · exact h
    · rw [if_neg h] at h3
      exact absurd h3 h
  rw [if_pos h4] at h3
  rw [lives_last, if_pos h3] at hx
  have h5 : 0 ≤ fuel ∧ fuel ≤ 3000 := by
    by_cases h : 0 ≤ fuel ∧ fuel ≤ 3000
    · exact h
    · rw [last_fault, if_neg h] at h3
      exact absurd h3 (by decide)
  unfold runF
  rw [if_pos h1, if_pos h2, if_pos h4, if_pos h5]
  have e : x = (runL (insP vs body) inp fuel.toNat (livesL (insP vs body) inp l (lf0 (sumV vs).toNat))).1 := hx
  rw [e]
theorem runF_bad {vs : List VarT} {body : List ST} {inp : List Int} {l : List Sp} {fuel : Int} (h1 : l.length ≤ 100) (h2 : newF vs body inp = 0) {c : Int} (h3 : badL (l ++ [(1, fuel, 0, 0)]) = c) (h0 : c ≠ 0) : runF vs body inp l fuel = ⟨0, [], [], 0, c⟩ := by
  unfold runF
  rw [if_pos h1, if_pos h2]
  rw [bad_app, bad_one] at h3
  by_cases h4 : badL l = 0
  · rw [if_pos h4] at h3 ⊢
    rw [last_fault] at h3
    by_cases h : 0 ≤ fuel ∧ fuel ≤ 3000
    · rw [if_pos h] at h3
      exact absurd h3.symm h0
    · rw [if_neg h] at h3 ⊢
      rw [h3]
  · rw [if_neg h4] at h3 ⊢
    rw [h3]
theorem lifeAll_ret {F : Nat → Prop} {w : World} {x iv lv : Value} {vs : List VarT} {body : List ST} {inp : List Int} {l : List Sp} (fuel : Int) (hp : ProgV F w x vs body) (hF : In F w) (hi : LsC w iv inp) (hlv : SpV w lv l) (hvl : vs.length ≤ 100000) (hsz : szSs body ≤ 1000) (hil : inp.length ≤ 100000) (hll : l.length ≤ 100000) (hok : ∀ s ∈ l, s.2.1 < 9223372036854775808 ∧ s.2.2.1 < 9223372036854775808 ∧ s.2.2.2 < 18446744073709551616) (hns : nSum l ≤ 6000) :
    Ret Tryz.prog 16 [x, iv, lv, .int .i64 fuel] w fun r w' => (∃ ov cv, r = .tuple #[.agg (resC (runF vs body inp l fuel).code ov cv).toArray, .int .i64 (runF vs body inp l fuel).fault] ∧ LsV w' ov (runF vs body inp l fuel).out ∧ LsV w' cv (runF vs body inp l fuel).cells ∧ Nw w ov ∧ Nw w cv) ∧ Keep [] w w' := by
  have hp0 := hp
  obtain ⟨vv, bv, rfl, hv, hb⟩ := hp
  obtain ⟨av, capv, rfl⟩ := hv.form
  obtain ⟨ab, capb, rfl⟩ := hb.form
  have hi0 := hi.1
  obtain ⟨ia, icap, rfl, hir⟩ := hi0
  obtain ⟨la, lcap, rfl⟩ := hlv.form
  refine ret_of 56 Tryz.func16 rfl rfl (by simp) ?_
  refine au ?_
  refine pl_op rfl rfl (opTo_boxN [.slice av vs.length capv, .slice ab body.length capb] rfl rfl rfl ?_)
  intro w1 x4 hx4 hs1 hk1 hX1
  refine au ?_
  refine pl_op rfl rfl (opTo_allocN _ rfl zero_re ?_)
  intro w2 x8 hx8 hs2 hk2 hZ2
  have hk02 := hk1.tr hk2
  have hX2 := hk2.blk hX1 (by simp)
  have hx8w : w.heap.size ≤ x8 := by have := hk1.size; omega
  refine au ?_
  by_cases h100 : ¬ l.length ≤ 100
  · refine ye ?_
    refine au ?_
    refine pl_val _ rfl rfl (val_build _ rfl rfl built_lr0 w2) ?_
    refine pl_op rfl rfl (opTo_storeN (resC 0 (.slice none 0 0) (.slice none 0 0)) rfl rfl rfl rfl size_re hZ2 (by simp [resC]) (resC_one _ _ _ _ _ _ _) ?_)
    intro w4 hs4 hk4 hZ4
    rw [splice_whole (by rfl)] at hZ4
    refine au ?_
    have e : runF vs body inp l fuel = ⟨0, [], [], 0, 3⟩ := by
      unfold runF
      rw [if_neg h100]
    rw [e]
    exact rn_ret Tryz.func16 (.inr (.inr (.inr (.inl ⟨_, _, _, _, _, _, rfl, rfl, blk_loadVar hT hZ4 rfl, rfl, rfl⟩)))) ⟨⟨.slice none 0 0, .slice none 0 0, rfl, lsv_nil _, lsv_nil _, nwl_nil _, nwl_nil _⟩, hk02.trB hk4 hx8w⟩
  replace h100 : l.length ≤ 100 := by omega
  refine nay ?_
  refine au ?_
  refine pl_val (.agg #[.slice av vs.length capv, .slice ab body.length capb]) rfl rfl (val_load [.slice av vs.length capv, .slice ab body.length capb] hT rfl rfl rfl (hX2.range (by rfl))) ?_
  refine au ?_
  refine pl_op rfl rfl (opTo_call (fst := []) (cap := []) rfl rfl rfl rfl (by decide +kernel) ((lifeNew_ret (hp0.keep hk02 hF.stays) (hF.keep hk02) ⟨hi.1.keep0 hk02, hi.2⟩ hvl hsz hil).mono ?_))
  rintro r w3 ⟨⟨pv, rfl, hLV⟩, hk3⟩
  have hZ3 := hk3.blk hZ2 (by simp)
  have hk03 := hk02.tr hk3
  refine au ?_
  by_cases hnf : ¬ newF vs body inp = 0
  · refine ye ?_
    refine au ?_
    refine pl_val _ rfl rfl (val_build _ rfl rfl built_lr0 w3) ?_
    refine au ?_
    refine pl_op rfl rfl (opTo_storeN (resC 0 (.slice none 0 0) (.slice none 0 0)) rfl rfl rfl rfl size_re hZ3 (by simp [resC]) (resC_one _ _ _ _ _ _ _) ?_)
    intro w4 hs4 hk4 hZ4
    rw [splice_whole (by rfl)] at hZ4
    refine au ?_
    have e : runF vs body inp l fuel = ⟨0, [], [], 0, newF vs body inp⟩ := by
      unfold runF
      rw [if_pos h100, if_neg hnf]
    rw [e]
    exact rn_ret Tryz.func16 (.inr (.inr (.inr (.inl ⟨_, _, _, _, _, _, rfl, rfl, blk_loadVar hT hZ4 rfl, rfl, rfl⟩)))) ⟨⟨.slice none 0 0, .slice none 0 0, rfl, lsv_nil _, lsv_nil _, nwl_nil _, nwl_nil _⟩, hk03.trB hk4 hx8w⟩
  replace hnf : newF vs body inp = 0 := by omega
  obtain ⟨y, fp, rfl, hLV3⟩ := hLV hnf
  rw [hnf]
  have hpf : progFault vs body = 0 := by
    unfold newF at hnf
    by_cases h : progFault vs body = 0
    · exact h
    · rw [if_neg h] at hnf
      exact absurd hnf h
  have hi40 : inp.length ≤ 40 := by
    unfold newF at hnf
    rw [if_pos hpf] at hnf
    by_cases h : inp.length ≤ 40
    · exact h
    · rw [if_neg h] at hnf
      exact absurd hnf (by decide)
  refine nay ?_
  refine au ?_
  refine pl_val _ rfl rfl (val_build _ rfl rfl (built_last fuel) w3) ?_
  refine pl_op rfl rfl (opTo_allocN _ rfl zero_lst ?_)
  intro w4 x12 hx12 hs4 hk4 hb4
  refine pl_op rfl rfl (opTo_storeN (spC (1, fuel, 0, 0)) rfl rfl rfl rfl size_lst hb4 (by simp [spC]) (spC_one _) ?_)
  intro w5 hs5 hk5 hb5
  rw [splice_whole (by rfl)] at hb5
  have hk35 : Keep [] w3 w5 := hk4.trB hk5 (by omega)
  refine au ?_
  refine pl_val (.agg (spC (1, fuel, 0, 0)).toArray) rfl rfl (val_load (spC (1, fuel, 0, 0)) hT rfl rfl rfl (hb5.range (by rfl))) ?_
  refine pl_op rfl rfl (opTo_sliceN _ _ rfl rfl (slice_last fuel) ?_)
  intro w6 g1 hg1 hs6 hk6 hb6
  refine pl_op rfl rfl (opTo_sliceN _ _ rfl rfl (slice_two la (some ⟨g1, 0, none⟩) l.length lcap 1 1) ?_)
  intro w7 g2 hg2 hs7 hk7 hb7
  have hk37 := (hk35.tr hk6).tr hk7
  have hlast : SpV w7 (.slice (some ⟨g1, 0, none⟩) 1 1) [(1, fuel, 0, 0)] := ⟨_, 1, rfl, fun _ => ⟨g1, 0, rfl, (hk7.blk hb6 (by simp)).lt, (hk7.blk hb6 (by simp)).range (by rfl)⟩⟩
  refine pl_op rfl rfl (opTo_call (fst := []) (cap := []) rfl rfl rfl rfl (by decide +kernel) ((concatSp_ret hb7 (hlv.keep0 (hk03.tr hk37)) hlast (by simp) (by simp only [List.length_singleton]; omega)).mono ?_))
  rintro r w8 ⟨hown, hk8⟩
  have hk38 := hk37.tr hk8
  have z37 := hk37.size
  have z38 := hk38.size
  obtain ⟨L, hL⟩ : ∃ L : List Sp, L = l ++ [(1, fuel, 0, 0)] := ⟨_, rfl⟩
  have hLl : L.length = l.length + 1 := by rw [hL]; simp
  have hcells : l.flatMap spC ++ [(1, fuel, 0, 0)].flatMap spC = L.flatMap spC := by rw [hL]; simp
  rw [hcells] at hown
  have hLn : l.length + [((1, fuel, 0, 0) : Sp)].length = L.length := by rw [hLl]; rfl
  rw [hLn] at hown
  obtain ⟨g3, c3, cur, hrv, hg3B, hcur, hcap3, hcl3, htk3⟩ : ∃ g cap cur, r = .slice (some ⟨g, 0, none⟩) L.length cap ∧ w7.heap.size ≤ g ∧ Blk w8 g cur tSt ∧ L.length ≤ cap ∧ cap * 4 ≤ cur.length ∧ cur.take (L.length * 4) = L.flatMap spC := by
    rcases hown.2 with ⟨_, h0⟩ | h
    · omega
    · exact h
  subst hrv
  have hLV8 := LV.keep hLV3 hk38 (fun k hk => by cases hk)
  have hLVlt := LV.lt hLV3
  have hB : w.heap.size ≤ w2.heap.size := hk02.size
  have hg3f : g3 ∉ fp := fun hm => by
    have := (hLVlt g3 hm).2
    omega
  have hg3l := hcur.lt
  have hnsL : nSum L ≤ 9000 := by
    rw [hL, nSum_snoc]
    simp only
    split <;> omega
  have hK : ∀ s ∈ L, s.2.2.1 < 9223372036854775808 := fun s hs => by
    rw [hL] at hs
    rcases List.mem_append.1 hs with h | h
    · exact (hok s h).2.1
    · rw [List.mem_singleton.1 h]
      show (0 : Int) < 9223372036854775808
      omega
  refine au ?_
  refine rn_ind (fun t σ w' => ∃ (j : Nat) (fp' : List Nat) (z' : Lz), j ≤ L.length ∧ t = L.length - j ∧ σ = [(8, .pointer (some ⟨x8, 0, none⟩)), (10, .pointer (some ⟨y, 0, none⟩)), (37, .slice (some ⟨g3, 0, none⟩) L.length c3), (38, .int .i64 (L.length : Nat)), (39, .int .i64 (j : Nat))] ∧ LV vs body inp w2.heap.size w' y fp' z' ∧ InvZ vs body inp z' (nSum (L.take j)) ∧
      z'.lf = livesL (insP vs body) inp (L.take j) (lf0 (sumV vs).toNat) ∧ badL (L.take j) = 0 ∧ Keep fp w8 w' ∧ ∀ k ∈ fp', k ∈ fp ∨ w8.heap.size ≤ k)
    L.length _ ?_ ⟨0, fp, _, Nat.zero_le _, rfl, rfl, hLV8, invZ0 vs body inp, rfl, rfl, Keep.refl _ _, fun k hk => .inl hk⟩ ?_
  · exact ⟨rfl, rfl, rfl, rfl, rfl, trivial⟩
  rintro t σ w9 ih ⟨j, fp', z', hj, rfl, rfl, h9, hz9, hlf, hbad, hk9, hf9⟩
  have hZ9 : Blk w9 x8 (resC 0 (.slice none 0 0) (.slice none 0 0)) 45 := hk9.blk (hk38.blk hZ3 (by simp)) fun hm => by
    have := (hLVlt x8 hm).1
    omega
  have hcur9 := hk9.blk hcur hg3f
  have hk09 : Keep [] w w9 := (hk03.tr hk38).trans hk9 fun k hk => .inr (Nat.le_trans hB (hLVlt k hk).1)
  have hnj : nSum (L.take j) ≤ 9000 := Nat.le_trans (nSum_take_le L j) hnsL
  refine au ?_
  by_cases hlt : j < L.length
  rotate_left
  · have hjn : j = L.length := by omega
    subst hjn
    refine nay ?_
    refine au ?_
    refine pl_op rfl rfl (opTo_call (fst := []) (cap := []) rfl rfl rfl rfl (by decide +kernel) ((lifeNow_ret h9 hz9 (by omega) hpf hsz).mono ?_))
    rintro r w10 ⟨⟨ov, cv, rfl, ho, hc, no, nc⟩, hk10⟩
    have hZ10 := hk10.blk hZ9 (by simp)
    have hx9 := hZ9.lt
    have z09 := hk09.size
    obtain ⟨oa, ok, rfl⟩ := ho.1.form
    obtain ⟨ca, ck, rfl⟩ := hc.form
    refine pl_op rfl rfl (opTo_storeN (resC (codeB z'.lf.m z'.lf.p) (.slice oa z'.lf.p.1.length ok) (.slice ca z'.lf.m.cells.length ck)) rfl rfl rfl rfl size_re hZ10 (by simp [resC]) (resC_one _ _ _ _ _ _ _) ?_)
    intro w11 hs11 hk11 hZ11
    rw [splice_whole (by rfl)] at hZ11
    refine au ?_
    rw [List.take_length] at hlf hbad
    rw [hL] at hlf hbad
    rw [runF_end h100 hnf hbad hlf]
    exact rn_ret Tryz.func16 (.inr (.inr (.inr (.inl ⟨_, _, _, _, _, _, rfl, rfl, blk_loadVar hT hZ11 rfl, rfl, rfl⟩)))) ⟨⟨_, _, rfl, ho.1.keepN hk11 (no.notOld hx9), hc.keepN hk11 (nc.notOld hx9), no.low z09, nc.low z09⟩, (hk09.tr hk10).trB hk11 hx8w⟩
  refine ye ?_
  refine au ?_
  obtain ⟨s, hs⟩ : ∃ s, L[j]? = some s := ⟨_, List.getElem?_eq_getElem hlt⟩
  have hsm : s ∈ L := List.mem_of_getElem? hs
  have hrng : w9.rangeAt g3 (0 + j * 4) (spC s) := hcur9.range (by
    have h1 := flat_at (f := spC) (k := 4) (fun p _ => spC_length p) hs
    have hll : j * 4 + 4 ≤ L.length * 4 := by omega
    rw [← htk3] at h1
    rw [Nat.zero_add, spC_length, ← h1, List.drop_take, List.take_take]
    congr 1
    omega)
  refine pl_val _ rfl rfl (val_index j hT rfl rfl rfl rfl rfl hlt w9) ?_
  refine pl_val (.agg (spC s).toArray) rfl rfl (val_load (spC s) hT rfl rfl rfl hrng) ?_
  refine pl_op rfl rfl (opTo_allocN _ rfl zero_lst ?_)
  intro w10 x14 hx14 hs10 hk10 hb10
  refine pl_op rfl rfl (opTo_storeN (spC s) rfl rfl rfl rfl size_lst hb10 (by simp [spC]) (spC_one _) ?_)
  intro w11 hs11 hk11 hb11
  rw [splice_whole (by rfl)] at hb11
  have hk911 : Keep [] w9 w11 := hk10.trB hk11 (by omega)
  refine au ?_
  refine pl_val (.agg (spC s).toArray) rfl rfl (val_load (spC s) hT rfl rfl rfl (hb11.range (by rfl))) ?_
  refine pl_op rfl rfl (opTo_call (fst := []) (cap := []) rfl rfl rfl rfl (by decide +kernel) ((does_ret s (LV.keep h9 hk911 (fun k hk => by cases hk)) hz9 (by omega) hpf hsz hi40 (hK s hsm)).mono ?_))
  rintro r w12 ⟨rfl, fp2, h12, hk12, hf12⟩
  have z911 := hk911.size
  have z89 := hk9.size
  have htake : L.take (j + 1) = L.take j ++ [s] := by rw [List.take_add_one, hs, Option.toList_some]
  have hlt9 := LV.lt h9
  have hk912 : Keep fp' w9 w12 := hk911.of0.tr hk12
  have hk012 : Keep [] w w12 := hk09.trans hk912 fun k hk => .inr (Nat.le_trans hB (hlt9 k hk).1)
  have hZ12 : Blk w12 x8 (resC 0 (.slice none 0 0) (.slice none 0 0)) 45 := hk912.blk hZ9 fun hm => by
    have := (hlt9 x8 hm).1
    omega
  have hbad1 : badL (L.take (j + 1)) = spFault s := by rw [htake, bad_app, if_pos hbad, bad_one]
  refine au ?_
  by_cases hsf : ¬ spFault s = 0
  · refine ye ?_
    refine au ?_
    refine pl_val _ rfl rfl (val_build _ rfl rfl built_lr0 w12) ?_
    refine au ?_
    refine pl_op rfl rfl (opTo_storeN (resC 0 (.slice none 0 0) (.slice none 0 0)) rfl rfl rfl rfl size_re hZ12 (by simp [resC]) (resC_one _ _ _ _ _ _ _) ?_)
    intro w13 hs13 hk13 hZ13
    rw [splice_whole (by rfl)] at hZ13
    refine au ?_
    have hbL : badL (l ++ [(1, fuel, 0, 0)]) = spFault s := by
      rw [← hL, ← List.take_append_drop (j + 1) L, bad_app, hbad1, if_neg hsf]
    rw [runF_bad h100 hnf hbL hsf]
    exact rn_ret Tryz.func16 (.inr (.inr (.inr (.inl ⟨_, _, _, _, _, _, rfl, rfl, blk_loadVar hT hZ13 rfl, rfl, rfl⟩)))) ⟨⟨.slice none 0 0, .slice none 0 0, rfl, lsv_nil _, lsv_nil _, nwl_nil _, nwl_nil _⟩, hk012.trB hk13 hx8w⟩
  replace hsf : spFault s = 0 := by omega
  rw [hsf]
  refine nay ?_
  refine au ?_
  refine pl_num (((j + 1 : Nat) : Int)) rfl rfl rfl rfl rfl (by simp only [ariP]; omega) ?_
  refine au ?_
  refine rn_sub ?_ (ih (L.length - (j + 1)) [(8, .pointer (some ⟨x8, 0, none⟩)), (10, .pointer (some ⟨y, 0, none⟩)), (37, .slice (some ⟨g3, 0, none⟩) L.length c3), (38, .int .i64 (L.length : Nat)), (39, .int .i64 ((j + 1 : Nat) : Int))] w12 (by omega) ⟨j + 1, fp2, _, by omega, rfl, rfl, h12, ?_, ?_, ?_, hk9.trans hk912 hf9, ?_⟩)
  · exact ⟨rfl, rfl, rfl, rfl, rfl, trivial⟩
  · rw [nSum_take hs]
    exact hz9.stepN s
  · rw [doZS_lf _ _ hsf, htake, lives_last, if_pos hsf, hlf]
  · rw [hbad1, hsf]
  · intro k hk
    rcases hf12 k hk with h | h
    · exact hf9 k h
    · exact .inr (by omega)

theorem lfI : LfI nwL LV where
  lt := LV.lt
  keep := LV.keep
  new hp hF hi hv hs hl := lifeNew_ret hp hF hi hv hs hl
  does s h hz hi hpf hsz hil _ hK _ := does_ret s h hz hi hpf hsz hil hK
  now h hz hi hpf hsz := lifeNow_ret h hz hi hpf hsz
  mach h := by
    obtain ⟨x, d, q, cv, iv, rd, fm, rfl, l1, l2, l3⟩ := h
    obtain ⟨m, s, h1, h2⟩ := l2.ptrs
    exact ⟨x, m, s, l1.blk.cell rfl, h1, h2⟩
  commits h hz hi hpf hsz hx := by
    obtain ⟨x, d, q, cv, iv, rd, fm, rfl, l1, l2, l3⟩ := h
    have e := (l1.blk.cell (i := 0) rfl).symm.trans hx
    cases e
    exact l2.commits (hz.lo hpf hsz l1.il).1
  all h hx hm := by
    obtain ⟨x, d, q, cv, iv, rd, fm, rfl, l1, l2, l3⟩ := h
    have e := (l1.blk.cell (i := 0) rfl).symm.trans hx
    cases e
    exact l2.all hm
  gen h hx hm hs := by
    obtain ⟨x, d, q, cv, iv, rd, fm, rfl, l1, l2, l3⟩ := h
    have e := (l1.blk.cell (i := 0) rfl).symm.trans hx
    cases e
    exact l2.gen hm hs
  run fuel hp hF hi hl h1 h2 h3 h4 h5 h6 := lifeAll_ret fuel hp hF hi hl h1 h2 h3 h4 h5 h6
end E
end Go.Proofs.YtmplkogkphmmjagGreat

/- Programs, as an argument of a law is read, are such as the walks know. -/
namespace Go.Proofs.YtmplkogkphmmjagGreat
set_option maxRecDepth 20000
set_option maxHeartbeats 4000000
namespace E
open Go.Proofs

/-- A program whose slice of statements is no longer than its capacity. -/
def CapB (x : Value) : Prop := ∃ vv a n c, x = .agg #[vv, .slice a n c] ∧ n ≤ c
section
variable {H : Type} {enc : TypeId × Value → H} {w : World} {base : Nat} {spare : Nat → Bool} {held : Bool}

theorem cInt : Tryz.prog.cellsOf 3 = 1 := by decide +kernel
theorem cLong : Tryz.prog.cellsOf 2 = 1 := by decide +kernel
theorem cStr : Tryz.prog.cellsOf 9 = 1 := by decide +kernel
theorem cLE : Tryz.prog.cellsOf 92 = 1 := by decide +kernel
theorem cLS : Tryz.prog.cellsOf 23 = 1 := by decide +kernel
theorem cLV : Tryz.prog.cellsOf 22 = 1 := by decide +kernel
theorem cE4 : Tryz.prog.cellsOf 94 = 4 := by decide +kernel
theorem cS12 : Tryz.prog.cellsOf 99 = 12 := by decide +kernel
theorem cV2 : Tryz.prog.cellsOf 97 = 2 := by decide +kernel
theorem cP2 : Tryz.prog.cellsOf 25 = 2 := by decide +kernel

theorem exprSplit : ExprSplit enc Tryz.prog w base spare held 3 2 92 94 := by
  intro fuel cs x h
  obtain ⟨xs, n, hn, _, hl, hlen, hf⟩ := DataW.trod_struct Tryz.underlying94 h
  rw [cE4] at hl
  obtain ⟨c0, c1, c2, c3, rfl⟩ := list4 hl
  have f0 : DataW.trod enc Tryz.prog w base spare held n 3 (([c0, c1, c2, c3].drop 0).take (Tryz.prog.cellsOf 3)) = xs[0]? := hf 0 _ rfl
  have f1 : DataW.trod enc Tryz.prog w base spare held n 3 (([c0, c1, c2, c3].drop 1).take (Tryz.prog.cellsOf 3)) = xs[1]? := hf 1 _ rfl
  have f2 : DataW.trod enc Tryz.prog w base spare held n 2 (([c0, c1, c2, c3].drop 2).take (Tryz.prog.cellsOf 2)) = xs[2]? := hf 2 _ rfl
  have f3 : DataW.trod enc Tryz.prog w base spare held n 92 (([c0, c1, c2, c3].drop 3).take (Tryz.prog.cellsOf 92)) = xs[3]? := hf 3 _ rfl
  have hx : ∀ i, i < 4 → ∃ y, xs[i]? = some y := fun i hi => ⟨xs[i]'(by rw [hlen]; exact hi), List.getElem?_eq_getElem _⟩
  obtain ⟨y0, e0⟩ := hx 0 (by decide)
  obtain ⟨y1, e1⟩ := hx 1 (by decide)
  obtain ⟨y2, e2⟩ := hx 2 (by decide)
  obtain ⟨y3, e3⟩ := hx 3 (by decide)
  rw [e0, cInt] at f0
  rw [e1, cInt] at f1
  rw [e2, cLong] at f2
  rw [e3, cLE] at f3
  exact ⟨n, c0, c1, c2, c3, hn, rfl, ⟨y0, f0⟩, ⟨y1, f1⟩, ⟨y2, f2⟩, ⟨y3, f3⟩⟩

theorem list12P {cs : List Value} (h : cs.length = 12) : ∃ a b c d e f g i j k l m, cs = [a, b, c, d, e, f, g, i, j, k, l, m] := by
  match cs, h with
  | [a, b, c, d, e, f, g, i, j, k, l, m], _ => exact ⟨a, b, c, d, e, f, g, i, j, k, l, m, rfl⟩

theorem stmtSplit : StmtSplit enc Tryz.prog w base spare held 3 94 23 99 := by
  intro fuel cs x h
  obtain ⟨xs, n, hn, _, hl, hlen, hf⟩ := DataW.trod_struct Tryz.underlying99 h
  rw [cS12] at hl
  obtain ⟨c0, c1, d0, d1, d2, d3, g0, g1, g2, g3, cb, co, rfl⟩ := list12P hl
  have f0 : DataW.trod enc Tryz.prog w base spare held n 3 (([c0, c1, d0, d1, d2, d3, g0, g1, g2, g3, cb, co].drop 0).take (Tryz.prog.cellsOf 3)) = xs[0]? := hf 0 _ rfl
  have f1 : DataW.trod enc Tryz.prog w base spare held n 3 (([c0, c1, d0, d1, d2, d3, g0, g1, g2, g3, cb, co].drop 1).take (Tryz.prog.cellsOf 3)) = xs[1]? := hf 1 _ rfl
  have f2 : DataW.trod enc Tryz.prog w base spare held n 94 (([c0, c1, d0, d1, d2, d3, g0, g1, g2, g3, cb, co].drop 2).take (Tryz.prog.cellsOf 94)) = xs[2]? := hf 2 _ rfl
  have f3 : DataW.trod enc Tryz.prog w base spare held n 94 (([c0, c1, d0, d1, d2, d3, g0, g1, g2, g3, cb, co].drop 6).take (Tryz.prog.cellsOf 94)) = xs[3]? := hf 3 _ rfl
  have f4 : DataW.trod enc Tryz.prog w base spare held n 23 (([c0, c1, d0, d1, d2, d3, g0, g1, g2, g3, cb, co].drop 10).take (Tryz.prog.cellsOf 23)) = xs[4]? := hf 4 _ rfl
  have f5 : DataW.trod enc Tryz.prog w base spare held n 23 (([c0, c1, d0, d1, d2, d3, g0, g1, g2, g3, cb, co].drop 11).take (Tryz.prog.cellsOf 23)) = xs[5]? := hf 5 _ rfl
  have hx : ∀ i, i < 6 → ∃ y, xs[i]? = some y := fun i hi => ⟨xs[i]'(by rw [hlen]; exact hi), List.getElem?_eq_getElem _⟩
  obtain ⟨y0, e0⟩ := hx 0 (by decide)
  obtain ⟨y1, e1⟩ := hx 1 (by decide)
  obtain ⟨y2, e2⟩ := hx 2 (by decide)
  obtain ⟨y3, e3⟩ := hx 3 (by decide)
  obtain ⟨y4, e4⟩ := hx 4 (by decide)
  obtain ⟨y5, e5⟩ := hx 5 (by decide)
  rw [e0, cInt] at f0
  rw [e1, cInt] at f1
  rw [e2, cE4] at f2
  rw [e3, cE4] at f3
  rw [e4, cLS] at f4
  rw [e5, cLS] at f5
  exact ⟨n, c0, c1, [d0, d1, d2, d3], [g0, g1, g2, g3], cb, co, hn, rfl, ⟨y0, f0⟩, ⟨y1, f1⟩, ⟨y2, f2⟩, ⟨y3, f3⟩, ⟨y4, f4⟩, ⟨y5, f5⟩⟩

theorem varSplit : VarSplit enc Tryz.prog w base spare held 9 3 97 := by
  intro fuel cs x h
  obtain ⟨xs, n, hn, _, hl, hlen, hf⟩ := DataW.trod_struct Tryz.underlying97 h
  rw [cV2] at hl
  match cs, hl with
  | [c0, c1], _ =>
    have f0 : DataW.trod enc Tryz.prog w base spare held n 9 (([c0, c1].drop 0).take (Tryz.prog.cellsOf 9)) = xs[0]? := hf 0 _ rfl
    have f1 : DataW.trod enc Tryz.prog w base spare held n 3 (([c0, c1].drop 1).take (Tryz.prog.cellsOf 3)) = xs[1]? := hf 1 _ rfl
    have hx : ∀ i, i < 2 → ∃ y, xs[i]? = some y := fun i hi => ⟨xs[i]'(by rw [hlen]; exact hi), List.getElem?_eq_getElem _⟩
    obtain ⟨y0, e0⟩ := hx 0 (by decide)
    obtain ⟨y1, e1⟩ := hx 1 (by decide)
    rw [e0, cStr] at f0
    rw [e1, cInt] at f1
    exact ⟨n, c0, c1, hn, rfl, ⟨y0, f0⟩, ⟨y1, f1⟩⟩

theorem prog_ofC {cs : Array Value} {d : DataW H} {ps : List MemPlace} (h : DataW.Trod enc Tryz.prog w base spare held 25 (.agg cs) d ps) : ∃ vs body, ProgV (fun b => b < w.heap.size) w (.agg cs) vs body ∧ CapB (.agg cs) := by
  obtain ⟨fuel, hf0⟩ := h
  obtain ⟨xs, n, _, _, hl, hlen, hf⟩ := DataW.trod_struct Tryz.underlying25 hf0
  rw [cP2] at hl
  have hl' : cs.toList.length = 2 := hl
  obtain ⟨c0, c1, hcs⟩ : ∃ c0 c1, cs.toList = [c0, c1] := by
    match cs.toList, hl' with
    | [c0, c1], _ => exact ⟨c0, c1, rfl⟩
  have f0 : DataW.trod enc Tryz.prog w base spare held n 22 ((cs.toList.drop 0).take (Tryz.prog.cellsOf 22)) = xs[0]? := hf 0 _ rfl
  have f1 : DataW.trod enc Tryz.prog w base spare held n 23 ((cs.toList.drop 1).take (Tryz.prog.cellsOf 23)) = xs[1]? := hf 1 _ rfl
  have hx : ∀ i, i < 2 → ∃ y, xs[i]? = some y := fun i hi => ⟨xs[i]'(by rw [hlen]; exact hi), List.getElem?_eq_getElem _⟩
  obtain ⟨y0, e0⟩ := hx 0 (by decide)
  obtain ⟨y1, e1⟩ := hx 1 (by decide)
  rw [e0, cLV, hcs] at f0
  rw [e1, cLS, hcs] at f1
  obtain ⟨vv, vs, hvv, hV⟩ := trod_vars Tryz.underlying9 Tryz.underlying3 Tryz.underlying22 cV2 varSplit f0
  obtain ⟨a, cap, L, cc, hc, hr, hq, hcap⟩ := open_rows (Q := StmtV (fun b => b < w.heap.size) w) 12 (by decide) Tryz.underlying23 cS12 (fun m _ cs x h => trod_stmt Tryz.underlying3 Tryz.underlying2 Tryz.underlying92 cE4 exprSplit Tryz.underlying23 cS12 stmtSplit m cs x h) f1
  simp at hvv hc
  subst hvv
  subst hc
  have hagg : Value.agg cs = .agg #[c0, .slice a L.length cap] := by
    congr 1
    apply Array.ext'
    rw [hcs]
  exact ⟨vs, L, ⟨c0, .slice a L.length cap, hagg, hV, a, cap, cc, rfl, hr, hq⟩, c0, a, L.length, cap, hagg, hcap⟩
theorem prog_of {cs : Array Value} {d : DataW H} {ps : List MemPlace} (h : DataW.Trod enc Tryz.prog w base spare held 25 (.agg cs) d ps) : ∃ vs body, ProgV (fun b => b < w.heap.size) w (.agg cs) vs body :=
  let ⟨vs, body, h, _⟩ := prog_ofC h
  ⟨vs, body, h⟩
end
end E
end Go.Proofs.YtmplkogkphmmjagGreat
