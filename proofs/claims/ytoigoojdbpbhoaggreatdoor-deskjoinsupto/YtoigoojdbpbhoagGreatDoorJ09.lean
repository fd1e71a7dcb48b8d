/- Texts MwG LzN LfR LkA LkB LkC CkA CkB CkC LkD DkD DkE. -/
import Derived.Test.YtoigoojdbpbhoagGreatDoorJ08
import Derived.Test.YtoigoojdbpbhoagGreatDoorJ02
import Derived.Test.YtoigoojdbpbhoagGreatDoorJ03
import Derived.Test.YtoigoojdbpbhoagGreatDoorJ04
import Derived.Test.YtoigoojdbpbhoagGreatDoorJ05
namespace Go.Proofs.YtoigoojdbpbhoagGreatDoor
set_option maxRecDepth 20000
set_option maxHeartbeats 4000000
namespace E
section
open Go.Proofs
abbrev tRs : Nat := 81
theorem built_rs (c : Int) (a : Option Addr) (n k : Nat) : Tryz.prog.built tRs [(0, .int .i64 c), (1, .slice a n k)] = some (resC c (.slice a n k) (.slice none 0 0)).toArray := by kernel_rfl
section
variable {Y : Nat → List Int → Prop} {Z : List Int} {R : Nat → Prop} {B : Nat} {w w' : World} {x : Nat} {fp : List Nat} {M : Mx}
theorem Vx.prn {O : Mo} {E : List Int → Prop} (h : Vx Y R B w x fp O E) : ∃ fq, PVm R B w O.q fq O.pr := by
 obtain ⟨d, s, S, W, D, wv, cv, iv, pv, rfl, h, _⟩ := h
 exact ⟨_, pv, rfl, h.pr⟩
theorem mresult0_ret (h : Vm Y Z R B w x fp M) (hp : M.pr.2 = false) (hst : M.md.state ≤ 1000) : Ret Tryz.prog 142 [.pointer (some ⟨x, 0, none⟩)] w fun r w' => r = .int .i64 (codeB M.md M.pr) ∧ Keep [] w w' := by
 have hp' : M.o.pr.2 = false := hp
 refine ret_of 21 Tryz.func142 rfl rfl (by simp) ?_
 unfold codeB
 rw [if_neg (by rw [hp]; decide)]
 refine au ?_
 refine pl_val _ rfl rfl (val_load1 hT rfl rfl rfl (h.ptr)) ?_
 refine oC (h.load 4 (M.md.state : Nat) fun W hl e => loadW_at e.state (by decide)) ?_
 rintro r w0 ⟨rfl, hww⟩
 rw [hww]
 refine au ?_
 by_cases h0 : M.md.state = 0
 ·rw [if_pos h0]
  refine ye ?_
  refine au ?_
  exact rn_ret Tryz.func142 (.inl ⟨_, rfl, rfl⟩) ⟨rfl, Keep.refl _ _⟩
 ·rw [if_neg h0]
  refine nay ?_
  refine au ?_
  by_cases h1 : M.md.state = 1
  ·rw [if_neg (by omega)]
   refine ye ?_
   refine au ?_
   refine pl_val _ rfl rfl (val_load1 hT rfl rfl rfl (h.prt)) ?_
   obtain ⟨fq, hP⟩ := h.prn
   refine oC (pcode_ret hP) ?_
   rintro r w1 ⟨rfl, hww⟩
   rw [hww, hp']
   refine au ?_
   exact rn_ret Tryz.func142 (.inl ⟨_, rfl, rfl⟩) ⟨rfl, Keep.refl _ _⟩
  ·rw [if_pos (by omega)]
   refine nay ?_
   refine nM ((M.md.state : Int) + -2) ?_
   refine au ?_
   exact rn_ret Tryz.func142 (.inl ⟨_, rfl, rfl⟩) ⟨by rw [Int.sub_eq_add_neg], Keep.refl _ _⟩
theorem mresult_ret {n : Nat} (h : Vm Y Z R B w x fp M) (hp : M.pr.2 = false) (hst : M.md.state ≤ 1000) (hpl : M.pr.1.length ≤ 400000) (hc : M.md.cells.length ≤ 48) (hn : n ≤ M.md.cells.length) :
  Ret Tryz.prog 102 [.pointer (some ⟨x, 0, none⟩), .int .i64 (n : Nat)] w fun r w' => (∃ ov cv, r = .agg (resC (codeB M.md M.pr) ov cv).toArray ∧ RowL w' w.heap.size ov M.pr.1 ∧ RowL w' w.heap.size cv (M.md.cells.take n)) ∧ Keep [] w w' := by
 obtain ⟨cd, hcd⟩ : ∃ cd, cd = codeB M.md M.pr := ⟨_, rfl⟩
 rw [← hcd]
 refine ret_of 30 Tryz.func102 rfl rfl (by simp) ?_
 refine auj ?_
 refine rn_seq ?_
 refine rn_plain ?_
 refine pl_op rfl rfl (opTo_allocN _ rfl zero_re ?_)
 intro w1 x4 hx4 hs1 hk1 hb1
 refine auj ?_
 refine rn_seq ?_
 have h1 := Vx.keep0 h hk1
 refine rn_with (fun σ' w' => ∃ g ov, Blk w' g (resC cd ov (.slice none 0 0)) tRs ∧ w1.heap.size ≤ g ∧ RowL w' w1.heap.size ov M.pr.1 ∧ Keep [] w1 w' ∧ Sub [(0, .pointer (some ⟨x, 0, none⟩)), (1, .int .i64 (n : Nat)), (4, .pointer (some ⟨x4, 0, none⟩)), (5, .pointer (some ⟨g, 0, none⟩))] σ') ?_ ?_
 rotate_left
 ·intro fin1
  refine rn_draw (fun w' => Keep [] w1 w') [9] hMix ?_
  have hS : Keep [] w1 w1.drew := (Keep.refl _ _).drew
  generalize w1.drew = w2 at *
  refine dr_with 1 511 (fun σ' w' => ∃ g ov, Blk w' g (resC 0 (.slice none 0 0) (.slice none 0 0)) tRs ∧ w1.heap.size ≤ g ∧ (∃ a k, ov = .slice a M.pr.1.length k) ∧ RowL w' w1.heap.size ov M.pr.1 ∧ Keep [] w1 w' ∧ Sub [(0, .pointer (some ⟨x, 0, none⟩)), (1, .int .i64 (n : Nat)), (4, .pointer (some ⟨x4, 0, none⟩)), (5, .pointer (some ⟨g, 0, none⟩)), (14, .agg (resC cd ov (.slice none 0 0)).toArray)] σ') ?_ ?_
  ·rintro σ' w3 ⟨g, ov, hg, hgw, ⟨oa, ok, rfl⟩, hov, hS3, hsub⟩
   refine dr_sub hsub ?_
   refine dr_op 9 rfl (by decide +kernel) rfl rfl (opTo_storeN (resC cd (.slice oa M.pr.1.length ok) (.slice none 0 0)) rfl rfl rfl rfl size_re hg (by simp [resC]) (resC_one _ _ _ _ _ _ _) ?_)
   intro w4 hs4 hk4 hb4
   rw [splice_whole (by rfl)] at hb4
   refine ⟨fun h => absurd (by simp) h, ?_⟩
   refine dr_done (by decide +kernel) ?_
   exact fin1 _ _ ⟨g, _, hb4, hgw, hov.keep hk4 (hov.ne hg (by decide)), hS3.trB hk4 hgw, rfl, rfl, rfl, rfl, trivial⟩
  intro fin2
  refine tk 0 ?_
  refine tk 2 ?_
  refine tk 3 ?_
  refine tk 4 ?_
  obtain ⟨cv, iv, hbk, _, _, _⟩ := h1.bk
  refine dr_val 5 (.pointer (some ⟨M.q, 0, none⟩)) rfl (by decide +kernel) rfl rfl (fun w9 hS9 => val_load1 hT rfl rfl rfl ((hS9.blk hbk (by simp)).cell rfl)) hS ?_
  have res : ∀ {w3 : World}, Keep [] w1 w3 → Ret Tryz.prog 142 [.pointer (some ⟨x, 0, none⟩)] w3 fun r w' => r = .int .i64 cd ∧ Keep [] w3 w' := fun {w3} hk => by
   rw [hcd]
   exact mresult0_ret (Vx.keep0 h1 hk) hp hst
  have lst : ∀ {w3 : World}, Keep [] w1 w3 → Ret Tryz.prog 143 [.pointer (some ⟨M.q, 0, none⟩)] w3 fun r w' => RowL w' w1.heap.size r M.pr.1 ∧ Keep [] w3 w' := fun {w3} hk => by
   obtain ⟨fq, hP⟩ := (Vx.keep0 h1 hk).prn
   refine (plist_ret hP hpl).mono ?_
   rintro r w' ⟨hr, hk'⟩
   exact ⟨hr.low hk.size, hk'⟩
  refine dr_op2 1 8 rfl rfl (by decide +kernel) rfl rfl rfl rfl ?_ ?_
  ·refine opTo_call (fst := []) (cap := []) rfl rfl rfl rfl (by decide +kernel) ((res hS).mono ?_)
   rintro r w3 ⟨rfl, hk3⟩
   have hS3 := hS.tr hk3
   refine ⟨fun _ => hS3, ?_⟩
   refine dr_op2 6 8 rfl rfl (by decide +kernel) rfl rfl rfl rfl ?_ ?_
   ·refine opTo_call (fst := []) (cap := []) rfl rfl rfl rfl (by decide +kernel) ((lst hS3).mono ?_)
    rintro r w4 ⟨hr, hk4⟩
    have hS4 := hS3.tr hk4
    obtain ⟨oa, ok, rfl⟩ := hr.form
    refine ⟨fun _ => hS4, ?_⟩
    refine dr_any 7 _ rfl (by decide +kernel) rfl rfl (fun w => val_build _ rfl rfl (built_rs cd oa M.pr.1.length ok) w) ?_
    refine dr_op 8 rfl (by decide +kernel) rfl rfl (opTo_allocN _ rfl zero_re ?_)
    intro w5 g hg hs5 hk5 hb5
    refine ⟨fun _ => hS4.tr hk5, ?_⟩
    exact fin2 _ _ ⟨g, _, hb5, by have := hS4.size; omega, ⟨_, _, rfl⟩, hr.keep hk5 (fun _ _ => by simp), hS4.tr hk5, rfl, rfl, rfl, rfl, rfl, trivial⟩
   ·refine opTo_allocN _ rfl zero_re ?_
    intro w4 g hg hs4 hk4 hb4
    have hS4 := hS3.tr hk4
    refine ⟨fun _ => hS4, ?_⟩
    refine dC 6 (lst hS4) ?_
    rintro r w5 ⟨hr, hk5⟩
    obtain ⟨oa, ok, rfl⟩ := hr.form
    refine ⟨fun _ => hS4.tr hk5, ?_⟩
    refine dr_any 7 _ rfl (by decide +kernel) rfl rfl (fun w => val_build _ rfl rfl (built_rs cd oa M.pr.1.length ok) w) ?_
    exact fin2 _ _ ⟨g, _, hk5.blk hb4 (by simp), by have := hS3.size; omega, ⟨_, _, rfl⟩, hr, hS4.tr hk5, rfl, rfl, rfl, rfl, rfl, trivial⟩
  ·refine opTo_allocN _ rfl zero_re ?_
   intro w3 g hg hs3 hk3 hb3
   have hS3 := hS.tr hk3
   refine ⟨fun _ => hS3, ?_⟩
   refine dC 1 (res hS3) ?_
   rintro r w4 ⟨rfl, hk4⟩
   have hS4 := hS3.tr hk4
   refine ⟨fun _ => hS4, ?_⟩
   refine dC 6 (lst hS4) ?_
   rintro r w5 ⟨hr, hk5⟩
   obtain ⟨oa, ok, rfl⟩ := hr.form
   refine ⟨fun _ => hS4.tr hk5, ?_⟩
   refine dr_any 7 _ rfl (by decide +kernel) rfl rfl (fun w => val_build _ rfl rfl (built_rs cd oa M.pr.1.length ok) w) ?_
   exact fin2 _ _ ⟨g, _, hk5.blk (hk4.blk hb3 (by simp)) (by simp), by have := hS.size; omega, ⟨_, _, rfl⟩, hr, hS4.tr hk5, rfl, rfl, rfl, rfl, rfl, trivial⟩
 rintro σ w2 ⟨g, ov, hg, hgw, hov, hk2, hsub⟩
 refine rn_sub hsub ?_
 clear hsub
 refine au ?_
 refine pl_val (.int .i64 (n : Nat)) rfl rfl (mval_min _ rfl rfl rfl (by rw [if_neg (by omega)]) _) ?_
 refine au ?_
 refine rn_ind (fun t σ w' => ∃ (j : Nat) (c2 : Value), j ≤ n ∧ t = n - j ∧ σ = [(0, .pointer (some ⟨x, 0, none⟩)), (4, .pointer (some ⟨x4, 0, none⟩)), (5, .pointer (some ⟨g, 0, none⟩)), (16, .int .i64 (n : Nat)), (17, .int .i64 (j : Nat))] ∧ Keep [] w1 w' ∧ Blk w' g (resC cd ov c2) tRs ∧ RowL w' w1.heap.size ov M.pr.1 ∧ RowL w' w1.heap.size c2 (M.md.cells.take j) ∧ Apt ov c2)
  n _ ?_ ⟨0, .slice none 0 0, Nat.zero_le _, rfl, rfl, hk2, hg, hov, RowL.nil _ _, fun k _ hm => by simp [obs, Value.ownBlock] at hm⟩ ?_
 ·exact ⟨rfl, rfl, rfl, rfl, rfl, trivial⟩
 clear hg hov hk2
 rintro t σ w3 ih ⟨j, c2, hj, rfl, rfl, hk3, hg, hov, hc2, hap⟩
 have hjl : (M.md.cells.take j).length = j := by rw [List.length_take]; omega
 obtain ⟨c2a, c2k, hc2v⟩ := hc2.form
 rw [hjl] at hc2v
 subst hc2v
 refine au ?_
 by_cases hlt : j < n
 ·refine ye ?_
  refine au ?_
  refine rn_draw (fun w' => Keep [] w3 w') [6, 8] hMix ?_
  have hS : Keep [] w3 w3.drew := (Keep.refl _ _).drew
  generalize w3.drew = w4 at *
  have hja : j < M.md.cells.length := by omega
  refine tk 0 ?_
  refine dr_val 1 (.slice c2a j c2k) rfl (by decide +kernel) rfl rfl (fun w9 hS9 => val_load1 hT rfl rfl rfl ((hS9.blk hg (by simp)).cell rfl)) hS ?_
  refine tk 2 ?_
  refine tk 3 ?_
  refine dC 4 (mcell_at (Vx.keep0 h1 (hk3.tr hS)) hc hja) ?_
  rintro r w4' ⟨rfl, hww⟩
  rw [hww]
  refine ⟨fun _ => hS, ?_⟩
  obtain ⟨v, hv⟩ : ∃ v, v = cellAt M.md.cells ((j : Nat) : Int) := ⟨_, rfl⟩
  rw [← hv]
  refine dr_op 5 rfl (by decide +kernel) rfl rfl (opTo_sliceN tLg [.int .i64 v] rfl rfl (slice_lg v) ?_)
  intro w5 g5 hg5 hs5 hk5 hb5
  refine ⟨fun _ => hS.tr hk5, ?_⟩
  have hc25 : Own w5 w1.heap.size tLg 1 (.slice c2a j c2k) j (lgs (M.md.cells.take j)) := by
   have := hc2.keep (hS.tr hk5) (fun _ _ => by simp)
   unfold RowL at this
   rw [hjl] at this
   exact this
  refine dr_op 6 rfl (by decide +kernel) rfl rfl (opTo_app w1.heap.size tLg 1 8 (lgs (M.md.cells.take j)) [.int .i64 v] rfl rfl rfl app_lg hc25 (hb5.range rfl) rfl (one_v rfl) (by decide) (by unfold maxLen; omega) (by omega) ((hk3.tr hS).tr hk5).size ?_)
  intro g2 cap w6 hown hcase
  refine ⟨fun h => absurd (by simp) h, ?_⟩
  have htk : M.md.cells.take (j + 1) = M.md.cells.take j ++ [v] := by
   rw [List.take_add_one, cellAt_nat hja, hv]
   rfl
  have hrow : RowL w6 w1.heap.size (.slice (some ⟨g2, 0, none⟩) (j + 1) cap) (M.md.cells.take (j + 1)) := by
   have e2 : lgs (M.md.cells.take (j + 1)) = lgs (M.md.cells.take j) ++ [.int .i64 v] := by rw [htk, lgs_app]; rfl
   unfold RowL
   rw [show (M.md.cells.take (j + 1)).length = j + 1 by rw [List.length_take]; omega, e2]
   exact hown
  have hk6 : Keep (obs (.slice c2a j c2k)) w5 w6 := by
   rcases hcase with ⟨h3, _, h4⟩ | ⟨_, h4, _⟩
   ·rw [obs, h3]; exact h4
   ·exact h4.of0
  have hob : ∀ y ∈ obs (.slice (some ⟨g2, 0, none⟩) (j + 1) cap), y ∈ obs (.slice c2a j c2k) ∨ w5.heap.size ≤ y := fun y hy => by
   have hy : y = g2 := by simpa [obs, Value.ownBlock] using hy
   subst hy
   rcases hcase with ⟨h3, _, _⟩ | ⟨h3, _, _⟩
   ·exact .inl (mem_obs.2 h3)
   ·exact .inr (by omega)
  have hg5b := (hS.tr hk5).blk hg (by simp)
  have hc25' : RowL w5 w1.heap.size (.slice c2a j c2k) (M.md.cells.take j) := hc2.keep (hS.tr hk5) (fun _ _ => by simp)
  have hg6 := hk6.blk hg5b fun hm => hc25'.ne hg5b (by decide) g hm (by simp)
  have hov5 := hov.keep (hS.tr hk5) (fun _ _ => by simp)
  have hov6 := hov5.keep hk6 fun y hy => hap y hy
  refine tk 7 ?_
  refine dr_op 8 rfl (by decide +kernel) rfl rfl (opTo_storeN [.slice (some ⟨g2, 0, none⟩) (j + 1) cap] rfl rfl rfl rfl size_ls hg6 (by simp [resC]) (one_v rfl) ?_)
  intro w7 hs7 hk7 hb7
  refine ⟨fun h => absurd (by simp) h, ?_⟩
  refine dr_done (by decide +kernel) ?_
  have hk17 : Keep [] w1 w7 := (((hk3.tr hS).tr hk5).trans hk6 fun y hy => .inr (hc25'.lt y hy).1).trB hk7 hgw
  refine nM ((j + 1 : Nat) : Int) ?_
  refine au ?_
  refine rn_sub ?_ (ih (n - (j + 1)) [(0, .pointer (some ⟨x, 0, none⟩)), (4, .pointer (some ⟨x4, 0, none⟩)), (5, .pointer (some ⟨g, 0, none⟩)), (16, .int .i64 (n : Nat)), (17, .int .i64 ((j + 1 : Nat) : Int))] w7 (by omega) ⟨j + 1, _, by omega, rfl, rfl, hk17, hb7, hov6.keep hk7 (hov6.ne hg6 (by decide)), hrow.keep hk7 (hrow.ne hg6 (by decide)), fun y hy hm => ?_⟩)
  ·exact ⟨rfl, rfl, rfl, rfl, rfl, trivial⟩
  ·rcases hob y hm with h3 | h3
   ·exact hap y hy h3
   ·have := (hov5.lt y hy).2
    omega
 ·have hjn : j = n := by omega
  subst hjn
  refine nay ?_
  refine au ?_
  obtain ⟨oa, ok, hov'⟩ := hov.form
  subst hov'
  refine pl_val (.agg (resC cd (.slice oa M.pr.1.length ok) (.slice c2a j c2k)).toArray) rfl rfl (val_load (resC cd (.slice oa M.pr.1.length ok) (.slice c2a j c2k)) hT rfl rfl rfl (hg.range (by rfl))) ?_
  have hb3 := hk3.blk hb1 (by simp)
  refine pl_op rfl rfl (opTo_storeN (resC cd (.slice oa M.pr.1.length ok) (.slice c2a j c2k)) rfl rfl rfl rfl size_re hb3 (by simp [resC]) (resC_one _ _ _ _ _ _ _) ?_)
  intro w4 hs4 hk4 hb4
  rw [splice_whole (by rfl)] at hb4
  refine au ?_
  exact rn_ret Tryz.func102 (.inr (.inr (.inl ⟨_, _, _, rfl, rfl, blk_loadVar hT hb4 rfl⟩))) ⟨⟨_, _, rfl, (hov.keep hk4 (hov.ne hb3 (by decide))).low hk1.size, RowL.low (hc2.keep hk4 (hc2.ne hb3 (by decide))) hk1.size⟩, (hk1.tr hk3).trB hk4 (by omega)⟩
end
def ovr (Z : List Int) (m : Md) : List Int := (List.range 112).map fun j =>
 if j = 0 then (m.next : Int) else if j = 1 then (m.stack.length : Int) else if j = 2 then (m.read : Int) else if j = 3 then (m.out : Int) else if j = 4 then (m.state : Int)
 else if j < 53 then (if j - 5 < m.cells.length then m.cells.getD (j - 5) 0 else Z.getD j 0) else (if j - 53 < m.stack.length then m.stack.getD (j - 53) 0 else Z.getD j 0)
theorem ovr_length (Z : List Int) (m : Md) : (ovr Z m).length = 112 := by simp [ovr]
theorem getD_some {l : List Int} {i : Nat} (h : i < l.length) : l[i]? = some (l.getD i 0) := by
 rw [List.getD_eq_getElem?_getD, List.getElem?_eq_getElem h]
 rfl
theorem Enb.whole {Z W : List Int} {m : Md} (h : Enb Z W m) (hW : W.length = 112) (hZ : Z.length = 112) (hc : m.cells.length ≤ 48) : W = ovr Z m := by
 refine List.ext_getElem? fun j => ?_
 by_cases hj : j < 112
 ·have hr : (ovr Z m)[j]? = some (if j = 0 then (m.next : Int) else if j = 1 then (m.stack.length : Int) else if j = 2 then (m.read : Int) else if j = 3 then (m.out : Int) else if j = 4 then (m.state : Int)
    else if j < 53 then (if j - 5 < m.cells.length then m.cells.getD (j - 5) 0 else Z.getD j 0) else (if j - 53 < m.stack.length then m.stack.getD (j - 53) 0 else Z.getD j 0)) := by
   simp only [ovr, List.getElem?_map, List.getElem?_range hj, Option.map_some]
  rw [hr]
  by_cases e0 : j = 0
  ·rw [if_pos e0, e0]; exact h.next
  rw [if_neg e0]
  by_cases e1 : j = 1
  ·rw [if_pos e1, e1]; exact h.many
  rw [if_neg e1]
  by_cases e2 : j = 2
  ·rw [if_pos e2, e2]; exact h.read
  rw [if_neg e2]
  by_cases e3 : j = 3
  ·rw [if_pos e3, e3]; exact h.out
  rw [if_neg e3]
  by_cases e4 : j = 4
  ·rw [if_pos e4, e4]; exact h.state
  rw [if_neg e4]
  by_cases e5 : j < 53
  ·rw [if_pos e5]
   by_cases e6 : j - 5 < m.cells.length
   ·rw [if_pos e6]
    have := h.cells (j - 5) _ (getD_some e6)
    rwa [show 5 + (j - 5) = j by omega] at this
   ·rw [if_neg e6, h.agb j (by omega) (.inl e5)]
    exact getD_some (by omega)
  ·rw [if_neg e5]
   by_cases e6 : j - 53 < m.stack.length
   ·rw [if_pos e6]
    have := h.stack (j - 53) _ (getD_some e6)
    rwa [show 53 + (j - 53) = j by omega] at this
   ·rw [if_neg e6, h.agb j (by omega) (.inr (by omega))]
    exact getD_some (by omega)
 ·rw [List.getElem?_eq_none (by omega), List.getElem?_eq_none (by rw [ovr_length]; omega)]
def Vw (Y : Nat → List Int → Prop) (R : Nat → Prop) (B : Nat) (w : World) (x : Nat) (fp : List Nat) (M : Mx) (W : List Int) : Prop := Vx Y R B w x fp M.o fun W' => Enc W' M.md ∧ W' = W
def Yk (d : Nat) (KW : List Int) : Nat → List Int → Prop := fun d' S => d' = d ∧ allS S = KW
def nwL (L : List Is) (inp : List Int) (m : Md) (W : List Int) : List Int := ovr W (stB L inp m ([], false)).1
theorem stB_fst (L : List Is) (inp : List Int) (m : Md) (p p' : Pr) : (stB L inp m p).1 = (stB L inp m p').1 := by
 unfold stB
 split
 ·exact exI_fst _ _ _ _ _
 ·rfl
section
variable {Y : Nat → List Int → Prop} {R : Nat → Prop} {B : Nat} {w w' : World} {x : Nat} {fp : List Nat} {M : Mx} {W KW : List Int} {d : Nat}
theorem Vw.len (h : Vw Y R B w x fp M W) : W.length = 112 := by
 obtain ⟨d, s, S, W', D, wv, cv, iv, pv, rfl, h, ⟨_, rfl⟩, _⟩ := h
 exact h.st.mem.wl
theorem Vw.m (h : Vw Y R B w x fp M W) : Vm Y W R B w x fp M := Vx.mono h fun _ _ e => ⟨e.1, fun j _ => by rw [e.2]⟩
theorem Vp.full {Z : List Int} (h : Vp Y Z R B w x fp M) (hZ : Z.length = 112) (hc : M.md.cells.length ≤ 48) : Vw Y R B w x fp M (ovr Z M.md) := Vx.mono h fun _ hl e => ⟨e.toEnc, e.whole hl hZ hc⟩
theorem mstep_w {c i : Nat} {Q : List Is} (h : Vw (Yk d KW) R B w x fp M W) (ho : Wo c Q M i) (hi : i ≤ 400000) (hs : M.md.state = 0) (hl : comB M.L M.md = true → M.left = 0 ∧ M.torn = false) :
  Ret Tryz.prog 179 [.pointer (some ⟨x, 0, none⟩)] w fun r w' => r = .bool true ∧ ∃ fp', Vw (Yk d (if comB M.L M.md then nwL M.L M.inp M.md W else KW)) R B w' x fp' (M.go (if comB M.L M.md then M.gen + 1 else M.gen)) (nwL M.L M.inp M.md W) ∧ Keep fp w w' ∧ ∀ k ∈ fp', k ∈ fp ∨ w.heap.size ≤ k := by
 have hcc := ho.fit.cells
 have hc48 := ho.c48
 have hmd : ∀ g, (M.go g).md = (stB M.L M.inp M.md ([], false)).1 := fun g => stB_fst _ _ _ _ _
 have hbn := (stB_bnd M.L M.inp M.md ([], false) ho.state).2.2.2
 refine (mstep_ret (Y' := Yk d (if comB M.L M.md then nwL M.L M.inp M.md W else KW)) h.m ho hi hs hl ?_ ?_).mono ?_
 ·rintro hcm d' S S2 W' ⟨rfl, _⟩ he hl' hS
  refine ⟨rfl, ?_⟩
  rw [hcm, if_pos rfl, hS, he.b.whole hl' h.len (by show M.md.cells.length ≤ 48; omega)]
  unfold nwL
  have e : (M.at M.md).md = (stB M.L M.inp M.md ([], false)).1 := by
   have h15 : (M.L.getD M.md.next (0, 0, 0, 0)).1 = 15 := by
    unfold comB at hcm
    simp only [Bool.and_eq_true, decide_eq_true_eq] at hcm
    exact hcm.2
   unfold stB
   rw [if_pos hs]
   generalize M.L.getD M.md.next (0, 0, 0, 0) = y at h15 ⊢
   obtain ⟨op, A, K, N⟩ := y
   simp only at h15
   subst h15
   rfl
  rw [e]
 ·rintro hcm d' S ⟨rfl, hS⟩
  exact ⟨rfl, by rw [hcm, if_neg (by decide)]; exact hS⟩
 ·rintro r w' ⟨rfl, fp', h', hk, hf⟩
  refine ⟨rfl, fp', ?_, hk, hf⟩
  have h2 := h'.full h.len (by rw [hmd, hbn]; omega)
  rw [hmd] at h2
  exact h2
theorem maskB_zero (mask : Nat) : maskB ((mask : Nat) : Int) 0 = decide (mask % 2 = 1) := by
 unfold maskB
 have e : ((mask : Nat) : Int).fdiv (2 ^ (0 % 64)) = (mask : Nat) := by simp
 rw [e]
 have e2 : (BitVec.ofInt 64 ((mask : Nat) : Int) &&& BitVec.ofInt 64 1).toNat = mask % 2 := by
  have h1 : BitVec.ofInt 64 1 = 1#64 := by decide
  rw [h1, BitVec.toNat_and, BitVec.ofInt_natCast, BitVec.toNat_ofNat, BitVec.toNat_ofNat, show 1 % 2 ^ 64 = 1 by decide, Nat.and_one_is_mod]
  omega
 rw [e2]
 have h2 : mask % 2 = 0 ∨ mask % 2 = 1 := by omega
 rcases h2 with h2 | h2 <;> rw [h2] <;> decide
theorem TnD.crash {E : List Int → Prop} {O : Mo} (h : TnD (Yk d KW) E R B w w' fp O) (h0 : 0 < O.left) (mask : Nat) :
  ∃ W, E W ∧ W.length = 112 ∧ Ret Tryz.prog 182 [.pointer (some ⟨d, 0, none⟩), .int .u64 (mask : Nat)] w' fun r w'' => r = .tuple #[] ∧ Keep [d] w' w'' ∧ ∃ S2, DiskV B w'' d S2 [] (.slice none 0 0) ∧ Good S2 ∧
   allS S2 = (if O.left = 1 ∧ mask % 2 = 1 then W else KW) ∧ genS S2 = (if O.left = 1 ∧ mask % 2 = 1 then O.gen + 1 else O.gen) := by
 obtain ⟨d', S, W, D, wv, pv, he, ⟨rfl, hK⟩, hl, hG, ht, hgen, hd, _⟩ := h
 refine ⟨W, he, hl, ?_⟩
 have hlen : (dirtyPs W D).length ≤ 14 := dirtyTo_len W D 14
 have hcv := (commit_view hG (chk_dirty W D) (dirtyTo_wf hl D (by decide))).2 (((dirtyPs W D).length : Int) + 5 - O.left).toNat (by omega) (maskB (mask : Nat))
 have hll : (doDeeds ((deedsOf S (dirtyPs W D)).take (((dirtyPs W D).length : Int) + 5 - O.left).toNat) (S, [])).2.length < 1000000 := by
  have h1 := doDeeds_len ((deedsOf S (dirtyPs W D)).take (((dirtyPs W D).length : Int) + 5 - O.left).toNat) (S, [])
  have h2 : ((deedsOf S (dirtyPs W D)).take (((dirtyPs W D).length : Int) + 5 - O.left).toNat).length ≤ (((dirtyPs W D).length : Int) + 5 - O.left).toNat := by rw [List.length_take]; omega
  simp only [List.length_nil] at h1
  omega
 refine (crash_ret hd hll (mask : Nat)).mono ?_
 rintro r w'' ⟨rfl, hd2, hk2⟩
 refine ⟨rfl, hk2, _, hd2, ?_⟩
 by_cases hc : O.left = 1 ∧ mask % 2 = 1
 ·have hN := hcv.1 ⟨by omega, by rw [maskB_zero]; simp [hc.2]⟩
  rw [if_pos hc, if_pos hc]
  exact ⟨hN.good, allS_eq hl (hN.all ht), by rw [hN.gen, hgen]⟩
 ·have hS := hcv.2 fun h => hc ⟨by omega, by rw [maskB_zero] at h; simpa using h.2⟩
  rw [if_neg hc, if_neg hc]
  refine ⟨hS.good, ?_, by rw [hS.gen, hgen]⟩
  rw [← hK]
  unfold allS catS
  simp only [hS.read]
end
end
section
open Go.Proofs
theorem exI_stack (inp : List Int) (x : Is) (m : Md) (p : Pr) : (exI inp x m p).1.stack.length ≤ m.stack.length + 1 := by
 simp only [exI, apply_ite Prod.fst, apply_ite Md.stack, apply_ite List.length, List.length_append, List.length_dropLast, List.length_cons, List.length_nil]
 repeat' split
 all_goals omega
theorem pu_stack {Q : List Is} {inp : List Int} {c : Nat} (hQ : Sim c 0 Q 0) (hJ : Jmps c 0 Q) : ∀ (n : Nat), (pu (Q ++ [haltI]) inp c n).1.stack.length ≤ 25
 | 0 => by simp [pu, runB, mind0]
 | n + 1 => by
  rw [pu_succ]
  unfold stB
  split
  ·rename_i hs
   have h1 := ((pu_fit (inp := inp) hQ hJ n).sim hs).le (by decide)
   have h2 := exI_stack inp ((Q ++ [haltI]).getD (pu (Q ++ [haltI]) inp c n).1.next (0, 0, 0, 0)) (pu (Q ++ [haltI]) inp c n).1 (pu (Q ++ [haltI]) inp c n).2
   omega
  ·exact pu_stack hQ hJ n
theorem InvL.fit {Q : List Is} {inp : List Int} {c : Nat} {x : Lf} {g : Nat} (h : InvL (Q ++ [haltI]) inp c x g) (hP : Prg c Q) : Fit c Q x.m x.p ∧ x.p.1.length ≤ g ∧ x.m.read ≤ g ∧ x.m.state ≤ 14 ∧ x.k.stack.length ≤ 25 ∧ (x.k.cells.length : Int) = c ∧ x.p.2 = false := by
 obtain ⟨a, b, e1, e2, e3, h1, h2⟩ := h
 have fa := pu_fit (inp := inp) hP.sim hP.jmp a
 have fb := pu_fit (inp := inp) hP.sim hP.jmp b
 obtain ⟨b1, b2, b3⟩ := pu_bounds (W := Q ++ [haltI]) (inp := inp) (c := c) a
 obtain ⟨_, d2, _⟩ := pu_bounds (W := Q ++ [haltI]) (inp := inp) (c := c) g
 have ho := (pu_out (W := Q ++ [haltI]) (inp := inp) (c := c) a).1
 have hpre := (pu_pre (W := Q ++ [haltI]) (inp := inp) (c := c) h1).length_le
 refine ⟨?_, by rw [e3]; exact d2, by rw [e1]; omega, by rw [e1]; exact b3, by rw [e2]; exact pu_stack hP.sim hP.jmp b, by rw [e2]; exact fb.cells, by rw [e3]; exact (pu_out g).2⟩
 rw [e1, e3]
 exact ⟨fa.cells, by omega, fa.next, fa.sim⟩
end
section
open Go.Proofs
section
variable {Y : Nat → List Int → Prop} {R : Nat → Prop} {B : Nat} {w w' : World} {x d q : Nat} {fp fp2 : List Nat} {M : Mx} {W KW : List Int} {pv : Value} {p : Pr} {g : Int}
theorem Vm.wds (h : Vm Y W R B w x fp M) (he : Enc W M.md) (hW : W.length = 112) (hc : M.md.cells.length ≤ 48) : Vw Y R B w x fp M W := Vx.mono h fun W' hl e => ⟨e.toEnc, by
 have h1 := e.b.whole hl hW hc
 have h2 : W = ovr W M.md := Enb.whole ⟨he, fun _ _ _ => rfl⟩ hW hW hc
 rw [h1]
 exact h2.symm⟩
theorem Vw.enc (h : Vw Y R B w x fp M W) : Enc W M.md := by
 obtain ⟨d, s, S, W', D, wv, cv, iv, pv, rfl, h, ⟨he, rfl⟩, _⟩ := h
 exact he
structure Dk (R : Nat → Prop) (B : Nat) (w : World) (d q : Nat) (pv : Value) (p : Pr) (KW : List Int) (g : Int) : Prop where
 dsk : ∃ S, DiskV B w d S [] (.slice none 0 0) ∧ Good S ∧ allS S = KW ∧ genS S = g
 pr : Pv R B w q pv p
 nr : ¬ R d
theorem Dk.keep (h : Dk R B w d q pv p KW g) (hk : Keep fp2 w w') (hn : ∀ k ∈ fp2, k ∉ d :: q :: obs pv) : Dk R B w' d q pv p KW g := by
 obtain ⟨⟨S, h1, h2⟩, h3, h4⟩ := h
 refine ⟨⟨S, h1.keep hk fun k hm h => ?_, h2⟩, h3.keep hk fun k hm hq => hn k hm (List.mem_cons_of_mem _ hq), h4⟩
 have : k = d := by simpa [fpD, Value.ownBlock] using hm
 exact hn k h (by rw [this]; simp)
theorem Dk.keep0 (h : Dk R B w d q pv p KW g) (hk : Keep [] w w') : Dk R B w' d q pv p KW g := h.keep hk fun k hk => by cases hk
theorem Dk.first {B0 : Nat} (hd : DiskV B0 w d (List.replicate 272 0) [] (.slice none 0 0)) (hB0 : B ≤ B0) (hp : Blk w q pz0 tPr) (hq : B ≤ q ∧ ¬ R q) (hnr : ¬ R d) (hro : ∀ k, R k → k < w.heap.size) : Dk R B w d q (.slice none 0 0) ([], false) (List.replicate 112 0) 0 := by
 rw [show List.replicate 272 (0 : Int) = S0 from rfl] at hd
 have hpv : Pv R B w q (.slice none 0 0) ([], false) := ⟨hp, RowL.nil _ _, hq.1, hro, fun k hk => by
  have hk : k = q := by simpa [obs, Value.ownBlock] using hk
  rw [hk]
  exact hq.2⟩
 exact ⟨⟨S0, ⟨hd.blk, World.ownsRow_nil _ _ _ _, hd.ne, hd.len, Nat.le_trans hB0 hd.base, hd.wf⟩, good0, allS0, genS0⟩, hpv, hnr⟩
theorem InsV.own {F : Nat → Prop} {v : Value} {l : List Is} (h : InsV F w v l) : ∃ rb : List Nat, (∀ k ∈ rb, F k) ∧ InsV (· ∈ rb) w v l := by
 obtain ⟨a, cap, e, h2⟩ := h
 by_cases h0 : 0 < l.length
 ·obtain ⟨b, o, e1, hF, hr⟩ := h2 h0
  exact ⟨[b], fun k hk => by rw [List.mem_singleton.1 hk]; exact hF, a, cap, e, fun _ => ⟨b, o, e1, by simp, hr⟩⟩
 ·exact ⟨[], ⟨fun k hk => (by cases hk), a, cap, e, fun h => absurd h h0⟩⟩
theorem disk_off {S : List Int} {L : List Wr} {wv : Value} (hd : DiskV B w d S L wv) (hp : Pv R B w q pv p) : ∀ k ∈ [d], k ∉ q :: obs pv := fun k hk hq => by
 have hk := List.mem_singleton.1 hk
 rcases List.mem_cons.1 hq with h5 | h5
 ·exact Blk.ne hd.blk hp.blk (by decide) (hk.symm.trans h5)
 ·exact hp.row.ne hd.blk (by decide) k h5 (by rw [hk]; simp)
theorem Vw.crash (h : Vw (Yk d KW) R B w x fp M W) (mask : Nat) :
  Ret Tryz.prog 182 [.pointer (some ⟨d, 0, none⟩), .int .u64 (mask : Nat)] w fun r w' => r = .tuple #[] ∧ ∃ pv, Dk R B w' d M.q pv M.pr KW M.gen ∧ Keep [d] w w' ∧ ∀ k ∈ d :: M.q :: obs pv, k ∈ fp := by
 obtain ⟨d', s, S, W', D, wv, cv, iv, pv, rfl, h, ⟨_, rfl⟩, rfl, hK⟩ := h
 refine (crash_ret h.st.dsk (by simp) (mask : Nat)).mono ?_
 rintro r w' ⟨rfl, hd, hk⟩
 have hin : ∀ k ∈ d' :: M.q :: obs pv, k ∈ fpV x d' s M.o.m wv M.o.q pv iv := fun k hk => by
  rcases List.mem_cons.1 hk with rfl | hk
  ·exact mem_fpV.2 (.inr (.inr (.inr (.inl (by simp [fpD])))))
  ·exact mem_fpV.2 (.inr (.inr (.inr (.inr (.inl hk)))))
 exact ⟨rfl, pv, ⟨⟨S, hd, h.st.good, hK, h.gen⟩, h.pr.keep hk (disk_off h.st.dsk h.pr), h.nr _ (hin _ (by simp))⟩, hk, hin⟩
theorem TnD.keep0 {w'' : World} {E : List Int → Prop} {O : Mo} (h : TnD Y E R B w w' fp O) (hk : Keep [] w' w'') : TnD Y E R B w w'' fp O := by
 obtain ⟨d', S, W', D, wv, pv, t1, t2, t3, t4, t5, t6, hd, hp, t7⟩ := h
 exact ⟨d', S, W', D, wv, pv, t1, t2, t3, t4, t5, t6, hd.keep hk (fun _ _ => by simp), hp.keep0 hk, t7⟩
theorem TnD.dk {E : List Int → Prop} {O : Mo} (h : TnD (Yk d KW) E R B w w' fp O) (h0 : 0 < O.left) (hd0 : d ∈ fp) (hnr : ¬ R d) (mask : Nat) :
  ∃ W, E W ∧ W.length = 112 ∧ Ret Tryz.prog 182 [.pointer (some ⟨d, 0, none⟩), .int .u64 (mask : Nat)] w' fun r w'' => r = .tuple #[] ∧ ∃ pv,
   Dk R B w'' d O.q pv O.pr (if O.left = 1 ∧ mask % 2 = 1 then W else KW) (if O.left = 1 ∧ mask % 2 = 1 then O.gen + 1 else O.gen) ∧ Keep [d] w' w'' ∧ ∀ k ∈ d :: O.q :: obs pv, k ∈ fp := by
 obtain ⟨W, he, hl, hr⟩ := h.crash h0 mask
 obtain ⟨d', S, W', D, wv, pv, _, ⟨rfl, _⟩, _, _, _, _, hd, hp, _, hf⟩ := h
 refine ⟨W, he, hl, hr.mono ?_⟩
 rintro r w'' ⟨rfl, hk, S2, h1, h2, h3, h4⟩
 refine ⟨rfl, pv, ⟨⟨S2, h1, h2, h3, h4⟩, hp.keep hk (disk_off hd hp), hnr⟩, hk, fun k hk => ?_⟩
 rcases List.mem_cons.1 hk with rfl | hk
 ·exact hd0
 ·exact hf k hk
def Lm (R : Nat → Prop) (B : Nat) (w : World) (d q : Nat) (L : List Is) (inp : List Int) (x : Nat) (fp : List Nat) (z : Lz) : Prop :=
 (∃ m, Vw (Yk d z.KW) R B w x fp ⟨L, inp, m, q, z.lf.m, z.lf.p, 0, false, z.gen⟩ z.W) ∧ Enc z.KW z.lf.k ∧ z.KW.length = 112
def Lo (c i : Nat) (Q : List Is) (inp : List Int) (z : Lz) : Prop := Wo c Q ⟨Q ++ [haltI], inp, 0, 0, z.lf.m, z.lf.p, 0, false, z.gen⟩ i
end
section
variable {R : Nat → Prop} {B : Nat} {w w' : World} {x d q c i : Nat} {fp fp2 : List Nat} {L Q : List Is} {inp : List Int} {z : Lz}
theorem Lo.at (h : Lo c i Q inp z) (m q : Nat) (left : Int) : Wo c Q ⟨Q ++ [haltI], inp, m, q, z.lf.m, z.lf.p, left, false, z.gen⟩ i := ⟨h.prg, h.c48, h.code, h.fit, h.inp, h.out, h.read, h.gen0, h.gen, h.state⟩
theorem Lo.cells (h : Lo c i Q inp z) : z.lf.m.cells.length ≤ 48 := by
 have h1 : (z.lf.m.cells.length : Int) = c := h.fit.cells
 have h2 := h.c48
 omega
theorem Lm.lt (h : Lm R B w d q L inp x fp z) : ∀ k ∈ fp, B ≤ k ∧ k < w.heap.size ∧ ¬ R k := by
 obtain ⟨⟨m, h⟩, _⟩ := h
 exact Vx.lt h
theorem Lm.keep (h : Lm R B w d q L inp x fp z) (hk : Keep fp2 w w') (hn : ∀ k ∈ fp2, ¬ R k ∧ k ∉ fp) : Lm R B w' d q L inp x fp z := by
 obtain ⟨⟨m, h⟩, he⟩ := h
 exact ⟨⟨m, Vx.keep h hk hn⟩, he⟩
theorem Lm.keep0 (h : Lm R B w d q L inp x fp z) (hk : Keep [] w w') : Lm R B w' d q L inp x fp z := h.keep hk fun k hk => by cases hk
theorem Lm.step (h : Lm R B w d q (Q ++ [haltI]) inp x fp z) (ho : Lo c i Q inp z) (hi : i ≤ 400000) (hs : z.lf.m.state = 0) :
  Ret Tryz.prog 179 [.pointer (some ⟨x, 0, none⟩)] w fun r w' => r = .bool true ∧ ∃ fp', Lm R B w' d q (Q ++ [haltI]) inp x fp' (stepZ nwL (Q ++ [haltI]) inp true z) ∧ Keep fp w w' ∧ ∀ k ∈ fp', k ∈ fp ∨ w.heap.size ≤ k := by
 obtain ⟨⟨m, h⟩, he, hl⟩ := h
 refine (mstep_w h (ho.at m q 0) hi hs fun _ => ⟨rfl, rfl⟩).mono ?_
 rintro r w' ⟨rfl, fp', h', hk, hf⟩
 refine ⟨rfl, fp', ?_, hk, hf⟩
 by_cases hc : comB (Q ++ [haltI]) z.lf.m = true
 ·have e : stepZ nwL (Q ++ [haltI]) inp true z = ⟨stepL (Q ++ [haltI]) inp true z.lf, nwL (Q ++ [haltI]) inp z.lf.m z.W, nwL (Q ++ [haltI]) inp z.lf.m z.W, z.gen + 1⟩ := by
   unfold stepZ
   rw [hc]
   rfl
  have hk' : (stepL (Q ++ [haltI]) inp true z.lf).k = (stB (Q ++ [haltI]) inp z.lf.m z.lf.p).1 := by
   simp only [stepL, hc, Bool.and_self, if_pos]
  simp only [hc, if_pos] at h'
  rw [e]
  exact ⟨⟨m, h'⟩, by rw [hk']; exact Vw.enc h', by unfold nwL; exact ovr_length _ _⟩
 ·have hc : comB (Q ++ [haltI]) z.lf.m = false := by simpa using hc
  have e : stepZ nwL (Q ++ [haltI]) inp true z = ⟨stepL (Q ++ [haltI]) inp true z.lf, nwL (Q ++ [haltI]) inp z.lf.m z.W, z.KW, z.gen⟩ := by
   unfold stepZ
   rw [hc]
   rfl
  have hk' : (stepL (Q ++ [haltI]) inp true z.lf).k = z.lf.k := by
   simp only [stepL, hc, Bool.and_false]
   rfl
  simp only [hc] at h'
  rw [e]
  exact ⟨⟨m, h'⟩, by rw [hk']; exact he, hl⟩
theorem Lm.off (h : Lm R B w d q L inp x fp z) (hs : z.lf.m.state ≠ 0) : Ret Tryz.prog 179 [.pointer (some ⟨x, 0, none⟩)] w fun r w' => r = .bool false ∧ Keep [] w w' := by
 obtain ⟨⟨m, h⟩, _⟩ := h
 exact mstep_off h.m hs
theorem Lm.commits (h : Lm R B w d q (Q ++ [haltI]) inp x fp z) (ho : Lo c i Q inp z) : Ret Tryz.prog 180 [.pointer (some ⟨x, 0, none⟩)] w fun r w' => r = .bool (comB (Q ++ [haltI]) z.lf.m) ∧ Keep [] w w' := by
 obtain ⟨⟨m, h⟩, _⟩ := h
 exact mcommits_ret h.m (ho.at m q 0)
theorem Lm.crash (h : Lm R B w d q L inp x fp z) (mask : Nat) :
  Ret Tryz.prog 182 [.pointer (some ⟨d, 0, none⟩), .int .u64 (mask : Nat)] w fun r w' => r = .tuple #[] ∧ ∃ pv, Dk R B w' d q pv z.lf.p z.KW z.gen ∧ Keep [d] w w' ∧ ∀ k ∈ d :: q :: obs pv, k ∈ fp := by
 obtain ⟨⟨m, h⟩, _⟩ := h
 exact h.crash mask
def Lt' (R : Nat → Prop) (B : Nat) (w : World) (d q : Nat) (L : List Is) (inp : List Int) (x : Nat) (fp : List Nat) (z : Lz) (left : Int) : Prop :=
 (∃ m, Vw (Yk d z.KW) R B w x fp ⟨L, inp, m, q, z.lf.m, z.lf.p, left, false, z.gen⟩ z.W) ∧ Enc z.KW z.lf.k ∧ z.KW.length = 112
theorem Lm.tear (h : Lm R B w d q L inp x fp z) (hc : z.lf.m.cells.length ≤ 48) (n : Int) : Ret Tryz.prog 181 [.pointer (some ⟨x, 0, none⟩), .int .i64 n] w fun r w' => r = .tuple #[] ∧ Lt' R B w' d q L inp x fp z n ∧ Keep fp w w' := by
 obtain ⟨⟨m, h⟩, he⟩ := h
 refine (mtear_ret h.m n).mono ?_
 rintro r w' ⟨rfl, h2, hk⟩
 exact ⟨rfl, ⟨⟨m, Vm.wds h2 h.enc h.len hc⟩, he⟩, hk⟩
theorem Lt'.tears {left : Int} (h : Lt' R B w d q (Q ++ [haltI]) inp x fp z left) (ho : Lo c i Q inp z) (hi : i ≤ 400000) (hcm : comB (Q ++ [haltI]) z.lf.m = true) (hl0 : 0 ≤ left) (hl1 : left < 9223372036854775808) (mask : Nat) {keep : Bool} (hkeep : keep = (left == 0 || (left == 1 && mask % 2 == 1))) :
  Ret Tryz.prog 179 [.pointer (some ⟨x, 0, none⟩)] w fun r w' => r = .bool true ∧ Keep fp w w' ∧ ∀ w1, Keep [] w' w1 →
   Ret Tryz.prog 182 [.pointer (some ⟨d, 0, none⟩), .int .u64 (mask : Nat)] w1 fun r w'' => r = .tuple #[] ∧ ∃ pv,
    Dk R B w'' d q pv (stepZ nwL (Q ++ [haltI]) inp keep z).lf.p (stepZ nwL (Q ++ [haltI]) inp keep z).KW (stepZ nwL (Q ++ [haltI]) inp keep z).gen ∧ Enc (stepZ nwL (Q ++ [haltI]) inp keep z).KW (stepZ nwL (Q ++ [haltI]) inp keep z).lf.k ∧ (stepZ nwL (Q ++ [haltI]) inp keep z).KW.length = 112 ∧ Keep [d] w1 w'' ∧ ∀ k ∈ d :: q :: obs pv, k ∈ fp ∨ w.heap.size ≤ k := by
 by_cases h0 : left = 0
 ·subst h0
  have hk1 : keep = true := by rw [hkeep]; rfl
  rw [hk1]
  refine (Lm.step h ho hi (by
   unfold comB at hcm
   simp only [Bool.and_eq_true, decide_eq_true_eq] at hcm
   exact hcm.1)).mono ?_
  rintro r w' ⟨rfl, fp', h', hk, hf⟩
  refine ⟨rfl, hk, fun w1 hk1 => ((h'.keep0 hk1).crash mask).mono ?_⟩
  rintro r w'' ⟨rfl, pv, hd, hk2, hf2⟩
  exact ⟨rfl, pv, hd, h'.2.1, h'.2.2, hk2, fun k hk => hf k (hf2 k hk)⟩
 ·obtain ⟨⟨m, h⟩, he, hl⟩ := h
  have hdf : d ∈ fp ∧ ¬ R d := by
   obtain ⟨d', s, S, W', D, wv, cv, iv, pv, rfl, h, _, rfl, _⟩ := h
   have : d' ∈ fpV x d' s m wv q pv iv := mem_fpV.2 (.inr (.inr (.inr (.inl (by simp [fpD])))))
   exact ⟨this, h.nr _ this⟩
  have hlen := h.len
  have henc := h.enc
  have hc48 := ho.cells
  refine (mtears_ret h.m (ho.at m q left) hi hcm (by show 0 < left; omega) hl1).mono ?_
  rintro r w' ⟨rfl, ht, hk⟩
  refine ⟨rfl, hk, fun w1 hk1 => ?_⟩
  obtain ⟨W2, hE, hl2, hr⟩ := (ht.keep0 hk1).dk (by show 0 < left; omega) hdf.1 hdf.2 mask
  have hst : (stB (Q ++ [haltI]) inp z.lf.m z.lf.p) = ({ z.lf.m with next := z.lf.m.next + 1 }, z.lf.p) := by
   unfold comB at hcm
   simp only [Bool.and_eq_true, decide_eq_true_eq] at hcm
   obtain ⟨hs, h15⟩ := hcm
   unfold stB
   rw [if_pos hs]
   generalize (Q ++ [haltI]).getD z.lf.m.next (0, 0, 0, 0) = y at h15 ⊢
   obtain ⟨op, A, K, N⟩ := y
   simp only at h15
   subst h15
   rfl
  have hW2 : W2 = nwL (Q ++ [haltI]) inp z.lf.m z.W := by
   unfold nwL
   rw [stB_fst _ _ _ _ z.lf.p, hst]
   exact hE.b.whole hl2 hlen hc48
  refine hr.mono ?_
  rintro r w'' ⟨rfl, pv, hd, hk2, hf2⟩
  refine ⟨rfl, pv, ?_⟩
  by_cases hc : left = 1 ∧ mask % 2 = 1
  ·have hkt : keep = true := by rw [hkeep]; simp [hc.1, hc.2]
   have e : stepZ nwL (Q ++ [haltI]) inp keep z = ⟨stepL (Q ++ [haltI]) inp true z.lf, nwL (Q ++ [haltI]) inp z.lf.m z.W, nwL (Q ++ [haltI]) inp z.lf.m z.W, z.gen + 1⟩ := by
    unfold stepZ
    rw [hkt, hcm]
    rfl
   have hd' : Dk R B w'' d q pv z.lf.p W2 (z.gen + 1) := by
    have h7 : Dk R B w'' d q pv z.lf.p (if left = 1 ∧ mask % 2 = 1 then W2 else z.KW) (if left = 1 ∧ mask % 2 = 1 then z.gen + 1 else z.gen) := hd
    rwa [if_pos hc, if_pos hc] at h7
   rw [e]
   refine ⟨?_, ?_, ?_, hk2, fun k hk => .inl (hf2 k hk)⟩
   ·show Dk R B w'' d q pv (stB (Q ++ [haltI]) inp z.lf.m z.lf.p).2 _ _
    rw [hst, ← hW2]
    exact hd'
   ·show Enc _ (if (true && comB (Q ++ [haltI]) z.lf.m) = true then (stB (Q ++ [haltI]) inp z.lf.m z.lf.p).1 else z.lf.k)
    rw [hcm, if_pos (by rfl), hst, ← hW2]
    exact hE.toEnc
   ·rw [← hW2]
    exact hl2
  ·have hkt : keep = false := by
    rw [hkeep]
    by_cases h1 : left = 1
    ·have : ¬ mask % 2 = 1 := fun h => hc ⟨h1, h⟩
     simp [h1, this]
    ·simp [h0, h1]
   have e : stepZ nwL (Q ++ [haltI]) inp keep z = ⟨stepL (Q ++ [haltI]) inp false z.lf, nwL (Q ++ [haltI]) inp z.lf.m z.W, z.KW, z.gen⟩ := by
    unfold stepZ
    rw [hkt]
    rfl
   have hd' : Dk R B w'' d q pv z.lf.p z.KW z.gen := by
    have h7 : Dk R B w'' d q pv z.lf.p (if left = 1 ∧ mask % 2 = 1 then W2 else z.KW) (if left = 1 ∧ mask % 2 = 1 then z.gen + 1 else z.gen) := hd
    rwa [if_neg hc, if_neg hc] at h7
   rw [e]
   refine ⟨?_, he, hl, hk2, fun k hk => .inl (hf2 k hk)⟩
   show Dk R B w'' d q pv (stB (Q ++ [haltI]) inp z.lf.m z.lf.p).2 _ _
   rw [hst]
   exact hd'
theorem Dk.mem {pv : Value} {p : Pr} {KW : List Int} {g : Int} {s : Nat} (h : Dk R B w d q pv p KW g) (hs : StoreV w s d) :
  Ret Tryz.prog 174 [.pointer (some ⟨s, 0, none⟩)] w fun v w' => ∃ m, v = .pointer (some ⟨m, 0, none⟩) ∧ w.heap.size ≤ m ∧ MemV w' m s KW (List.replicate 14 false) ∧ Keep [] w w' := by
 obtain ⟨⟨S, h1, h2, rfl, _⟩, _⟩ := h
 exact mnew_ret hs h1
theorem Dk.wake {pv cv iv : Value} {p : Pr} {g : Int} {s m : Nat} {KW : List Int} {k : Md} {W : List Int} {mm : Md} (h : Dk R B w d q pv p KW g) (hs : StoreV w s d) (hsB : B ≤ s ∧ ¬ R s) (hm : MemV w m s KW (List.replicate 14 false)) (hmB : B ≤ m ∧ ¬ R m) (he : Enc KW k) (hc : k.cells.length ≤ 48) (hl : KW.length = 112)
  (hcv : InsV R w cv L) (hiv : LsR R w iv inp) (hil : inp.length ≤ 1000000) :
  Ret Tryz.prog 173 [.pointer (some ⟨m, 0, none⟩), cv, iv, .pointer (some ⟨q, 0, none⟩)] w fun r w' => ∃ x fp, r = .pointer (some ⟨x, 0, none⟩) ∧ Lm R B w' d q L inp x fp (wakeZ ⟨⟨mm, k, p⟩, W, KW, g⟩) ∧ Keep [] w w' ∧ ∀ b ∈ fp, b ∈ d :: q :: obs pv ∨ b = s ∨ b = m ∨ w.heap.size ≤ b := by
 obtain ⟨⟨S, h1, h2, rfl, rfl⟩, hp, hnr⟩ := h
 have hst : St B w d s m S (allS S) (List.replicate 14 false) (.slice none 0 0) := fresh_st hm hs h1 h2 (Keep.refl _ _) hmB.1
 have hfm : ∀ b ∈ fpM d s m (.slice none 0 0), b = m ∨ b = s ∨ b = d := fun b hb => by
  simpa [fpM, fpD, Value.ownBlock] using hb
 refine (mnew_m (Y := Yk d (allS S)) (Z := allS S) (md := k) hst hsB.1 (fun b hb => ?_) ⟨he, fun _ _ => rfl⟩ ⟨rfl, rfl⟩ ⟨pv, rfl, hp⟩ hcv hiv hp.ro hil).mono ?_
 ·rcases hfm b hb with rfl | rfl | rfl
  ·exact hmB.2
  ·exact hsB.2
  ·exact hnr
 ·rintro r w' ⟨x, fp, rfl, hv, hk, hf⟩
  refine ⟨x, fp, rfl, ⟨⟨m, Vm.wds hv he hl hc⟩, he, hl⟩, hk, fun b hb => ?_⟩
  rcases hf b hb with h3 | h3 | h3
  ·rcases hfm b h3 with rfl | rfl | rfl
   ·exact .inr (.inr (.inl rfl))
   ·exact .inr (.inl rfl)
   ·exact .inl (by simp)
  ·exact .inl (List.mem_cons_of_mem _ h3)
  ·exact .inr (.inr (.inr h3))
end
theorem RowL.lsC {w : World} {B : Nat} {v : Value} {l : List Int} (h : RowL w B v l) : LsC w v l := ⟨h.lies, fun a n cap e => by
 subst e
 rcases h.2 with ⟨e, _⟩ | ⟨g, cap', cur, e, _, _, hc, _⟩
 ·cases e
  exact Nat.le_refl _
 ·cases e
  exact hc⟩
theorem RowL.nw {w w0 : World} {v : Value} {l : List Int} (h : RowL w w0.heap.size v l) : Nw w0 v := fun b q n c e h0 => by
 subst e
 rcases h.2 with ⟨e, _⟩ | ⟨g, cap', cur, e, hB, _⟩
 ·cases e
 ·cases e
  exact hB
section
variable {R : Nat → Prop} {B : Nat} {w w' : World} {x d q c i : Nat} {fp fp2 : List Nat} {L Q : List Is} {inp : List Int} {z : Lz}
theorem Lm.result (h : Lm R B w d q L inp x fp z) (hp : z.lf.p.2 = false) (hst : z.lf.m.state ≤ 1000) (hpl : z.lf.p.1.length ≤ 400000) (hc : z.lf.m.cells.length ≤ 48) {n : Nat} (hn : n = z.lf.m.cells.length) :
  Ret Tryz.prog 102 [.pointer (some ⟨x, 0, none⟩), .int .i64 (n : Nat)] w fun r w' => (∃ ov cv, r = .agg (resC (codeB z.lf.m z.lf.p) ov cv).toArray ∧ LsC w' ov z.lf.p.1 ∧ LsV w' cv z.lf.m.cells ∧ Nw w ov ∧ Nw w cv) ∧ Keep [] w w' := by
 obtain ⟨⟨m, h⟩, _⟩ := h
 refine (mresult_ret h.m hp hst hpl hc (n := n) (by show n ≤ z.lf.m.cells.length; omega)).mono ?_
 rintro r w' ⟨⟨ov, cv, rfl, h1, h2⟩, hk⟩
 have e : z.lf.m.cells.take n = z.lf.m.cells := by rw [hn, List.take_length]
 have h2 : RowL w' w.heap.size cv (z.lf.m.cells.take n) := h2
 rw [e] at h2
 have h1 : RowL w' w.heap.size ov z.lf.p.1 := h1
 exact ⟨⟨ov, cv, rfl, h1.lsC, h2.lies, h1.nw, h2.nw⟩, hk⟩
end
theorem InvZ.lo {vs : List VarT} {body : List ST} {inp : List Int} {z : Lz} {i : Nat} (h : InvZ vs body inp z i) (hpf : progFault vs body = 0) (hsz : szSs body ≤ 1000) (hil : inp.length ≤ 40) : Lo (sumV vs).toNat i (insSs vs body 0) inp z ∧ (z.lf.k.cells.length : Int) = (sumV vs).toNat ∧ (z.lf.m.cells.length : Int) = (sumV vs).toNat ∧ (sumV vs).toNat ≤ 48 ∧ z.lf.p.2 = false := by
 obtain ⟨⟨g0, g1⟩, g, hg, hI⟩ := h
 obtain ⟨c, hc, h48, hP⟩ := prog_prg hpf hsz
 have hcc : c = (sumV vs).toNat := by omega
 subst hcc
 obtain ⟨f1, f2, f3, f4, f5, f6, f7⟩ := InvL.fit hI hP
 exact ⟨⟨hP, h48, rfl, f1, by show inp.length ≤ 1000; omega, by show z.lf.p.1.length ≤ i; omega, by show z.lf.m.read ≤ i; omega, g0, g1, f4⟩, f6, f1.cells, h48, f7⟩
theorem InvZ.one {vs : List VarT} {body : List ST} {inp : List Int} {z : Lz} {i : Nat} {nw : List Is → List Int → Md → List Int → List Int} (h : InvZ vs body inp z i) (keep : Bool) : InvZ vs body inp (stepZ nw (insP vs body) inp keep z) (i + 1) := by
 obtain ⟨⟨g0, g1⟩, g, hg, hI⟩ := h
 obtain ⟨a1, a2⟩ := stepZ_gen (nw := nw) (L := insP vs body) (inp := inp) keep z
 obtain ⟨g', b1, b2, b3⟩ := hI.step keep
 exact ⟨⟨by omega, by omega⟩, g', by omega, by rw [stepZ_lf]; exact b3⟩
end
section
open Go.Proofs
abbrev tLf : Nat := 166
def lfC (mv : Value) (d q : Nat) (cv iv : Value) (n : Nat) : List Value := [mv, .pointer (some ⟨d, 0, none⟩), cv, iv, .pointer (some ⟨q, 0, none⟩), .int .i64 (n : Nat)]
structure Lfk (rd : List Nat) (B : Nat) (w : World) (y : Nat) (mv : Value) (d q : Nat) (cv iv : Value) (L : List Is) (ip : List Int) (n : Nat) : Prop where
 blk : Blk w y (lfC mv d q cv iv n) tLf
 code : InsV (· ∈ rd) w cv L
 inp : LsR (· ∈ rd) w iv ip
 ge : B ≤ y
 low : ∀ k ∈ rd, B ≤ k ∧ k < w.heap.size
 nrd : y ∉ rd
 il : ip.length ≤ 40
def LV (vs : List VarT) (body : List ST) (inp : List Int) (B : Nat) (w : World) (y : Nat) (fp : List Nat) (z : Lz) : Prop :=
 ∃ x d q cv iv rd fm, fp = y :: (fm ++ rd) ∧ Lfk rd B w y (.pointer (some ⟨x, 0, none⟩)) d q cv iv (insP vs body) inp (sumV vs).toNat ∧ Lm (· ∈ rd) B w d q (insP vs body) inp x fm z ∧ y ∉ fm
section
variable {rd : List Nat} {B : Nat} {w w' : World} {y d q n : Nat} {mv cv iv : Value} {L : List Is} {inp : List Int} {fp2 : List Nat}
theorem Lfk.keep (h : Lfk rd B w y mv d q cv iv L inp n) (hk : Keep fp2 w w') (hn : ∀ k ∈ fp2, k ≠ y ∧ k ∉ rd) : Lfk rd B w' y mv d q cv iv L inp n := by
 refine ⟨hk.blk h.blk fun hm => (hn y hm).1 rfl, h.code.keep hk fun c hR => ⟨(h.low c hR).2, fun hm => (hn c hm).2 hR⟩, ?_, h.ge, fun k hk' => ⟨(h.low k hk').1, Nat.lt_of_lt_of_le (h.low k hk').2 hk.size⟩, h.nrd, h.il⟩
 obtain ⟨a, cap, e, h2⟩ := h.inp
 refine ⟨a, cap, e, fun h0 => ?_⟩
 obtain ⟨b, q, e1, hR, hr⟩ := h2 h0
 exact ⟨b, q, e1, hR, range_keep hr hk (h.low b hR).2 fun hm => (hn b hm).2 hR⟩
theorem Lfk.keep0 (h : Lfk rd B w y mv d q cv iv L inp n) (hk : Keep [] w w') : Lfk rd B w' y mv d q cv iv L inp n := h.keep hk fun k hk => by cases hk
end
section
variable {vs : List VarT} {body : List ST} {inp : List Int} {B : Nat} {w w' : World} {y : Nat} {fp fp2 : List Nat} {z : Lz}
theorem LV.lt (h : LV vs body inp B w y fp z) : ∀ k ∈ fp, B ≤ k ∧ k < w.heap.size := by
 obtain ⟨x, d, q, cv, iv, rd, fm, rfl, h1, h2, h3⟩ := h
 intro k hk
 simp only [List.mem_cons, List.mem_append] at hk
 rcases hk with rfl | hk | hk
 ·exact ⟨h1.ge, h1.blk.lt⟩
 ·exact ⟨(h2.lt k hk).1, (h2.lt k hk).2.1⟩
 ·exact h1.low k hk
theorem LV.keep (h : LV vs body inp B w y fp z) (hk : Keep fp2 w w') (hn : ∀ k ∈ fp2, k ∉ fp) : LV vs body inp B w' y fp z := by
 obtain ⟨x, d, q, cv, iv, rd, fm, rfl, h1, h2, h3⟩ := h
 refine ⟨x, d, q, cv, iv, rd, fm, rfl, h1.keep hk fun k hm => ⟨fun e => hn k hm (by simp [e]), fun e => hn k hm (by simp [e])⟩, h2.keep hk fun k hm => ⟨fun e => hn k hm (by simp [e]), fun e => hn k hm (by simp [e])⟩, h3⟩
end
theorem wake_ret {vs : List VarT} {body : List ST} {inp : List Int} {rd : List Nat} {B : Nat} {w : World} {y d q n : Nat} {mv cv iv pv : Value} {p : Pr} {KW W : List Int} {g : Int} {k mm : Md} (h : Lfk rd B w y mv d q cv iv (insP vs body) inp n) (hn : n = (sumV vs).toNat) (hd : Dk (· ∈ rd) B w d q pv p KW g) (hy : y ∉ d :: q :: obs pv) (he : Enc KW k) (hc : k.cells.length ≤ 48) (hl : KW.length = 112) (hil : inp.length ≤ 1000000) :
  Ret Tryz.prog 136 [.pointer (some ⟨y, 0, none⟩)] w fun r w' => r = .tuple #[] ∧ ∃ fp', LV vs body inp B w' y fp' (wakeZ ⟨⟨mm, k, p⟩, W, KW, g⟩) ∧ Keep [y] w w' ∧ ∀ b ∈ fp', b = y ∨ b ∈ d :: q :: obs pv ∨ b ∈ rd ∨ w.heap.size ≤ b := by
 obtain ⟨ca, ccap, hcv⟩ := h.code.form
 subst hcv
 obtain ⟨ia, icap, hiv, hi2⟩ := h.inp
 subst hiv
 have hyl := h.blk.lt
 have hBw : B ≤ w.heap.size := Nat.le_trans h.ge (Nat.le_of_lt hyl)
 refine ret_of 24 Tryz.func136 rfl rfl (by simp) ?_
 refine rn_draw (fun w' => Keep [] w w') [22] hMix ?_
 have hS : Keep [] w w.drew := (Keep.refl _ _).drew
 generalize w.drew = w1 at *
 refine tk 0 ?_
 refine tk 1 ?_
 refine tk 2 ?_
 refine tk 3 ?_
 refine dr_val 4 (.pointer (some ⟨d, 0, none⟩)) rfl (by decide +kernel) rfl rfl (fun w9 hS9 => val_load1 hT rfl rfl rfl ((h.keep0 hS9).blk.cell rfl)) hS ?_
 refine tk 7 ?_
 refine tk 8 ?_
 refine tk 9 ?_
 refine dr_val 10 (.slice ca (insP vs body).length ccap) rfl (by decide +kernel) rfl rfl (fun w9 hS9 => val_load1 hT rfl rfl rfl ((h.keep0 hS9).blk.cell rfl)) hS ?_
 refine tk 11 ?_
 refine tk 12 ?_
 refine tk 13 ?_
 refine dr_val 14 (.slice ia inp.length icap) rfl (by decide +kernel) rfl rfl (fun w9 hS9 => val_load1 hT rfl rfl rfl ((h.keep0 hS9).blk.cell rfl)) hS ?_
 refine tk 15 ?_
 refine tk 16 ?_
 refine tk 17 ?_
 refine dr_val 18 (.pointer (some ⟨q, 0, none⟩)) rfl (by decide +kernel) rfl rfl (fun w9 hS9 => val_load1 hT rfl rfl rfl ((h.keep0 hS9).blk.cell rfl)) hS ?_
 refine dC 5 (open_ret d w1) ?_
 rintro r w2 ⟨rfl, hs2, hk2⟩
 have hS2 := hS.tr hk2
 refine ⟨fun _ => hS2, ?_⟩
 have hsz1 := hS.size
 have hlt2 := hs2.lt
 refine dC 6 ((hd.keep0 hS2).mem hs2) ?_
 rintro r w3 ⟨m, rfl, hm3, hmem, hk3⟩
 have hS3 := hS2.tr hk3
 refine ⟨fun _ => hS3, ?_⟩
 have hsz2 := hk2.size
 have h3 := h.keep0 hS3
 have nr : ∀ {k : Nat}, w.heap.size ≤ k → k ∉ rd := fun {k} hk hm => by
  have := (h.low k hm).2
  omega
 refine dC 19 (Dk.wake (mm := mm) (W := W) (hd.keep0 hS3) (hk3.blk hs2 (by simp)) ⟨by omega, nr hsz1⟩ hmem ⟨by omega, nr (by omega)⟩ he hc hl h3.code h3.inp hil) ?_
 rintro r w4 ⟨x, fm, rfl, hm4, hk4, hf4⟩
 have hS4 := hS3.tr hk4
 have h4 := h.keep0 hS4
 refine ⟨fun _ => hS4, ?_⟩
 have hsz3 := hk3.size
 refine tk 20 ?_
 refine tk 21 ?_
 refine dr_op 22 rfl (by decide +kernel) rfl rfl (opTo_storeN [.pointer (some ⟨x, 0, none⟩)] rfl rfl rfl rfl (by kernel_rfl) h4.blk (by simp [lfC]) (one_v rfl) ?_)
 intro w5 hs5 hk5 hb5
 refine ⟨fun h => absurd (by simp) h, ?_⟩
 refine dr_done (by decide +kernel) ?_
 have hyf : y ∉ fm := fun hm => by
  rcases hf4 y hm with h5 | h5 | h5 | h5
  ·exact hy h5
  ·omega
  ·omega
  ·omega
 have h5 : Lfk rd B w5 y (.pointer (some ⟨x, 0, none⟩)) d q (.slice ca (insP vs body).length ccap) (.slice ia inp.length icap) (insP vs body) inp n := by
  have hn' : ∀ k ∈ [y], k ∉ rd := fun k hk hm => h.nrd (by rw [← List.mem_singleton.1 hk]; exact hm)
  refine ⟨hb5, h4.code.keep hk5 fun c hR => ⟨(h4.low c hR).2, fun hm => hn' c hm hR⟩, ?_, h.ge, fun k hk' => ⟨(h4.low k hk').1, Nat.lt_of_lt_of_le (h4.low k hk').2 hk5.size⟩, h.nrd, h.il⟩
  obtain ⟨a, cap, e, h2⟩ := h4.inp
  refine ⟨a, cap, e, fun h0 => ?_⟩
  obtain ⟨b, q, e1, hR, hr⟩ := h2 h0
  exact ⟨b, q, e1, hR, range_keep hr hk5 (h4.low b hR).2 fun hm => hn' b hm hR⟩
 refine au ?_
 refine rn_end Tryz.func136 (.inr (.inl ⟨rfl, rfl⟩)) ⟨rfl, _, ⟨x, d, q, _, _, rd, fm, rfl, hn ▸ h5, hm4.keep hk5 (fun k hk => ?_), hyf⟩, hS4.of0.tr hk5, ?_⟩
 ·rw [List.mem_singleton.1 hk]
  exact ⟨h.nrd, hyf⟩
 ·intro b hb
  simp only [List.mem_cons, List.mem_append] at hb
  rcases hb with hb | hb | hb
  ·exact .inl hb
  ·rcases hf4 b hb with h6 | h6 | h6 | h6
   ·exact .inr (.inl h6)
   ·exact .inr (.inr (.inr (by omega)))
   ·exact .inr (.inr (.inr (by omega)))
   ·exact .inr (.inr (.inr (by omega)))
  ·exact .inr (.inr (.inl hb))
end
section
open Go.Proofs
theorem lcheck_ret (s : Sp) (w : World) : Ret Tryz.prog 138 [.agg (spC s).toArray] w fun r w' => r = .int .i64 (spFault s) ∧ Keep [] w w' := by
 obtain ⟨kd, N, K, mk⟩ := s
 refine ret_of 40 Tryz.func138 rfl rfl (by simp) ?_
 refine au ?_
 refine pl_op rfl rfl (opTo_boxN (spC (kd, N, K, mk)) rfl rfl rfl ?_)
 intro w1 x1 hx1 hs1 hk1 hb1
 have e2 : ¬ (kd = 1 ∨ kd = 2 ∨ kd = 3) → spFault (kd, N, K, mk) = 2 := fun h => by
  unfold spFault
  simp only
  rw [if_pos (by omega)]
 have e1 : (kd = 1 ∨ kd = 2 ∨ kd = 3) → (kd ≠ 2 ∧ (N < 0 ∨ 3000 < N) ∨ kd = 3 ∧ K < 0) → spFault (kd, N, K, mk) = 1 := fun h h' => by
  unfold spFault
  simp only
  rw [if_neg (by omega), if_pos h']
 have e0 : (kd = 1 ∨ kd = 2 ∨ kd = 3) → ¬ (kd ≠ 2 ∧ (N < 0 ∨ 3000 < N) ∨ kd = 3 ∧ K < 0) → spFault (kd, N, K, mk) = 0 := fun h h' => by
  unfold spFault
  simp only
  rw [if_neg (by omega), if_neg h']
 by_cases h0 : kd = 1 ∨ kd = 2 ∨ kd = 3
 rotate_left
 ·refine aub ?_
  exact rn_ret Tryz.func138 (.inl ⟨_, rfl, rfl⟩) ⟨by rw [e2 h0], hk1⟩
 by_cases h2 : kd = 2
 ·have hr := e0 h0 (by omega)
  refine aub ?_
  exact rn_ret Tryz.func138 (.inl ⟨_, rfl, rfl⟩) ⟨by rw [hr], hk1⟩
 by_cases hN : N < 0
 ·have hr := e1 h0 (by omega)
  by_cases h1 : kd = 1
  ·refine aub ?_
   exact rn_ret Tryz.func138 (.inl ⟨_, rfl, rfl⟩) ⟨by rw [hr], hk1⟩
  ·have h3 : kd = 3 := by omega
   refine aub ?_
   exact rn_ret Tryz.func138 (.inl ⟨_, rfl, rfl⟩) ⟨by rw [hr], hk1⟩
 by_cases hN2 : 3000 < N
 ·have hr := e1 h0 (by omega)
  by_cases h1 : kd = 1
  ·refine aub ?_
   exact rn_ret Tryz.func138 (.inl ⟨_, rfl, rfl⟩) ⟨by rw [hr], hk1⟩
  ·have h3 : kd = 3 := by omega
   refine aub ?_
   exact rn_ret Tryz.func138 (.inl ⟨_, rfl, rfl⟩) ⟨by rw [hr], hk1⟩
 by_cases h1 : kd = 1
 ·have hr := e0 h0 (by omega)
  refine aub ?_
  exact rn_ret Tryz.func138 (.inl ⟨_, rfl, rfl⟩) ⟨by rw [hr], hk1⟩
 have h3 : kd = 3 := by omega
 by_cases hK : K < 0
 ·have hr := e1 h0 (by omega)
  refine aub ?_
  exact rn_ret Tryz.func138 (.inl ⟨_, rfl, rfl⟩) ⟨by rw [hr], hk1⟩
 ·have hr := e0 h0 (by omega)
  refine aub ?_
  exact rn_ret Tryz.func138 (.inl ⟨_, rfl, rfl⟩) ⟨by rw [hr], hk1⟩
section
variable {vs : List VarT} {body : List ST} {inp : List Int} {B : Nat} {w w' : World} {x y d q i : Nat} {fp fm fm' rd : List Nat} {cv iv : Value} {z z' : Lz}
theorem LV.put (h1 : Lfk rd B w y (.pointer (some ⟨x, 0, none⟩)) d q cv iv (insP vs body) inp (sumV vs).toNat) (hyf : y ∉ fm) (hm : Lm (· ∈ rd) B w d q (insP vs body) inp x fm z) (hm' : Lm (· ∈ rd) B w' d q (insP vs body) inp x fm' z') (hk : Keep fm w w') (hf : ∀ k ∈ fm', k ∈ fm ∨ w.heap.size ≤ k) : LV vs body inp B w' y (y :: (fm' ++ rd)) z' := by
 refine ⟨x, d, q, cv, iv, rd, fm', rfl, h1.keep hk fun k hk => ⟨fun e => hyf (e ▸ hk), (hm.lt k hk).2.2⟩, hm', fun h => ?_⟩
 rcases hf y h with h2 | h2
 ·exact hyf h2
 ·have := h1.blk.lt
  omega
theorem lifeCrash_ret {A : Nat → Prop} {mv : Value} {n mk : Nat} {p : Pr} {KW W : List Int} {g : Int} {k mm : Md} (h : Lfk rd B w y mv d q cv iv (insP vs body) inp n) (hn : n = (sumV vs).toNat)
  (hcr : Ret Tryz.prog 182 [.pointer (some ⟨d, 0, none⟩), .int .u64 (mk : Nat)] w fun r w' => r = .tuple #[] ∧ ∃ pv, Dk (· ∈ rd) B w' d q pv p KW g ∧ Enc KW k ∧ KW.length = 112 ∧ Keep [d] w w' ∧ ∀ b ∈ d :: q :: obs pv, b ≠ y ∧ b ∉ rd ∧ A b)
  (hc : k.cells.length ≤ 48) (hil : inp.length ≤ 1000000) :
  Ret Tryz.prog 141 [.pointer (some ⟨y, 0, none⟩), .int .u64 (mk : Nat)] w fun r w' => r = .tuple #[] ∧ ∃ fp', LV vs body inp B w' y fp' (wakeZ ⟨⟨mm, k, p⟩, W, KW, g⟩) ∧ Keep [d, y] w w' ∧ A d ∧ ∀ b ∈ fp', b = y ∨ A b ∨ b ∈ rd ∨ w.heap.size ≤ b := by
 refine ret_of 12 Tryz.func141 rfl rfl (by simp) ?_
 refine lB h.blk ?_
 refine au ?_
 refine pl_op rfl rfl (opTo_call (fst := []) (cap := []) rfl rfl rfl rfl (by decide +kernel) (hcr.mono ?_))
 rintro r w1 ⟨rfl, pv, hd1, he, hl, hk1, hf1⟩
 have hdd := hf1 d (by simp)
 refine oC (wake_ret (mm := mm) (W := W) (h.keep hk1 fun b hb => by rw [List.mem_singleton.1 hb]; exact ⟨hdd.1, hdd.2.1⟩) hn hd1 (fun hm => (hf1 y hm).1 rfl) he hc hl hil) ?_
 rintro r w2 ⟨rfl, fp', h2, hk2, hf2⟩
 have hs1 := hk1.size
 refine au ?_
 refine rn_end Tryz.func141 (.inr (.inl ⟨rfl, rfl⟩)) ⟨rfl, fp', h2, ?_, hdd.2.2, fun b hb => ?_⟩
 ·exact (hk1.mono fun b hb => .inl (by rw [List.mem_singleton.1 hb]; simp)).tr (hk2.mono fun b hb => .inl (by rw [List.mem_singleton.1 hb]; simp))
 ·rcases hf2 b hb with h6 | h6 | h6 | h6
  ·exact .inl h6
  ·exact .inr (.inl (hf1 b h6).2.2)
  ·exact .inr (.inr (.inl h6))
  ·exact .inr (.inr (.inr (by omega)))
theorem lifeRun_ret (n : Nat) (h : LV vs body inp B w y fp z) (hz : InvZ vs body inp z i) (hi : i ≤ 300000) (hpf : progFault vs body = 0) (hsz : szSs body ≤ 1000) (hil : inp.length ≤ 40) (hn : n ≤ 3000) :
  Ret Tryz.prog 139 [.pointer (some ⟨y, 0, none⟩), .int .i64 (n : Nat)] w fun r w' => r = .int .i64 ((runZ nwL (insP vs body) inp n z).2 : Nat) ∧ ∃ fp', LV vs body inp B w' y fp' (runZ nwL (insP vs body) inp n z).1 ∧ Keep fp w w' ∧ ∀ k ∈ fp', k ∈ fp ∨ w.heap.size ≤ k := by
 refine ret_of 19 Tryz.func139 rfl rfl (by simp) ?_
 refine au ?_
 refine rn_ind (fun t σ w' => ∃ (j : Nat) (fp' : List Nat) (z' : Lz), j ≤ n ∧ t = n - j ∧ σ = [(0, .pointer (some ⟨y, 0, none⟩)), (1, .int .i64 (n : Nat)), (6, .int .i64 (n : Nat)), (7, .int .i64 (j : Nat))] ∧ LV vs body inp B w' y fp' z' ∧ InvZ vs body inp z' (i + j) ∧
   runZ nwL (insP vs body) inp n z = ((runZ nwL (insP vs body) inp (n - j) z').1, (runZ nwL (insP vs body) inp (n - j) z').2 + j) ∧ Keep fp w w' ∧ ∀ k ∈ fp', k ∈ fp ∨ w.heap.size ≤ k)
  n _ ?_ ⟨0, fp, z, Nat.zero_le _, rfl, rfl, h, hz, rfl, Keep.refl _ _, fun k hk => .inl hk⟩ ?_
 ·exact ⟨rfl, rfl, rfl, rfl, trivial⟩
 rintro t σ w3 ih ⟨j, fp', z', hj, rfl, rfl, h3, hz3, htot, hk3, hf3⟩
 have hsz3 := hk3.size
 refine au ?_
 by_cases hlt : j < n
 rotate_left
 ·have hjn : j = n := by omega
  subst hjn
  refine nay ?_
  refine au ?_
  rw [Nat.sub_self] at htot
  rw [htot]
  refine rn_ret Tryz.func139 (.inl ⟨_, rfl, rfl⟩) ⟨by simp [runZ], fp', h3, hk3, hf3⟩
 refine ye ?_
 obtain ⟨x, d, q, cv, iv, rd, fm, hfp, l1, l2, l3⟩ := h3
 obtain ⟨hlo3, hkc3, hmc3, _, _⟩ := hz3.lo hpf hsz hil
 obtain ⟨r, hr⟩ : ∃ r, n - j = r + 1 := ⟨n - j - 1, by omega⟩
 rw [hr] at htot
 simp only [runZ] at htot
 refine lB l1.blk ?_
 by_cases hs0 : z'.lf.m.state = 0
 rotate_left
 ·rw [if_neg hs0] at htot
  refine oC (l2.off hs0) ?_
  rintro r w5 ⟨rfl, hk5⟩
  refine au ?_
  rw [htot]
  refine rn_ret Tryz.func139 (.inl ⟨_, rfl, rfl⟩) ⟨by simp, _, LV.put l1 l3 l2 (l2.keep0 hk5) hk5.of0 (fun k hk => .inl hk), hk3.tr0 hk5, fun k hk => hf3 k (by rw [hfp]; exact hk)⟩
 rw [if_pos hs0] at htot
 refine oC (l2.step hlo3 (by omega) hs0) ?_
 rintro r w5 ⟨rfl, fm', hm5, hk5, hf5⟩
 have hv5 := LV.put l1 l3 l2 hm5 hk5 hf5
 have hz5 := hz3.one (nw := nwL) true
 have hk35 : Keep fp' w3 w5 := hk5.mono fun k hk => .inl (by rw [hfp]; simp [hk])
 refine nM ((j + 1 : Nat) : Int) ?_
 refine au ?_
 refine rn_sub ?_ (ih (n - (j + 1)) [(0, .pointer (some ⟨y, 0, none⟩)), (1, .int .i64 (n : Nat)), (6, .int .i64 (n : Nat)), (7, .int .i64 ((j + 1 : Nat) : Int))] w5 (by omega) ⟨j + 1, _, _, by omega, rfl, rfl, hv5, hz5, ?_, hk3.trans hk35 (fun k hm => hf3 k hm), ?_⟩)
 ·exact ⟨rfl, rfl, rfl, rfl, trivial⟩
 ·rw [htot, show n - (j + 1) = r by omega]
  simp only [Nat.add_assoc, Nat.add_comm 1 j]
  rfl
 ·intro k hk
  simp only [List.mem_cons, List.mem_append] at hk
  have old : k ∈ fp' → k ∈ fp ∨ w.heap.size ≤ k := hf3 k
  rcases hk with hk | hk | hk
  ·exact old (by rw [hfp, hk]; simp)
  ·rcases hf5 k hk with h6 | h6
   ·exact old (by rw [hfp]; simp [h6])
   ·exact .inr (by omega)
  ·exact old (by rw [hfp]; simp [hk])
end
end
section
open Go.Proofs
section
variable {vs : List VarT} {body : List ST} {inp : List Int} {B : Nat} {w w' : World} {x y d q i : Nat} {fp fm fm' rd : List Nat} {cv iv : Value} {z z' : Lz}
theorem lifeTear_ret {kd K : Int} {n mk : Nat} {kp : Bool} (h : LV vs body inp B w y fp z) (hz : InvZ vs body inp z i) (hi : i ≤ 300000) (hpf : progFault vs body = 0) (hsz : szSs body ≤ 1000) (hil : inp.length ≤ 40) (hn : n ≤ 3000) (hK0 : 0 ≤ K) (hK : K < 9223372036854775808) (hkp : kp = spKeep (kd, (n : Int), K, mk)) :
  Ret Tryz.prog 140 [.pointer (some ⟨y, 0, none⟩), .agg (spC (kd, (n : Int), K, mk)).toArray] w fun r w' => r = .int .i64 ((tearZ nwL (insP vs body) inp kp n z).2 : Nat) ∧ ∃ fp', LV vs body inp B w' y fp' (tearZ nwL (insP vs body) inp kp n z).1 ∧ Keep fp w w' ∧ ∀ k ∈ fp', k ∈ fp ∨ w.heap.size ≤ k := by
 refine ret_of 44 Tryz.func140 rfl rfl (by simp) ?_
 refine au ?_
 refine pl_op rfl rfl (opTo_boxN (spC (kd, (n : Int), K, mk)) rfl rfl rfl ?_)
 intro w2 x1 hx1 hs2 hk02 hb2
 have h2 := h.keep hk02 (fun k hk => by cases hk)
 have hx1f : x1 ∉ fp := fun hm => by
  have := (h.lt x1 hm).2
  omega
 have hsz02 := hk02.size
 have hx2 := hb2.lt
 refine lB hb2 ?_
 refine au ?_
 refine rn_ind (fun t σ w' => ∃ (j : Nat) (fp' : List Nat) (z' : Lz), j ≤ n ∧ t = n - j ∧ σ = [(0, .pointer (some ⟨y, 0, none⟩)), (3, .pointer (some ⟨x1, 0, none⟩)), (7, .int .i64 (n : Nat)), (8, .int .i64 (j : Nat))] ∧ LV vs body inp B w' y fp' z' ∧ InvZ vs body inp z' (i + j) ∧
   tearZ nwL (insP vs body) inp kp n z = ((tearZ nwL (insP vs body) inp kp (n - j) z').1, (tearZ nwL (insP vs body) inp kp (n - j) z').2 + j) ∧ Keep fp w2 w' ∧ ∀ k ∈ fp', k ∈ fp ∨ w2.heap.size ≤ k)
  n _ ?_ ⟨0, fp, z, Nat.zero_le _, rfl, rfl, h2, hz, rfl, Keep.refl _ _, fun k hk => .inl hk⟩ ?_
 ·exact ⟨rfl, rfl, rfl, rfl, trivial⟩
 rintro t σ w3 ih ⟨j, fp', z', hj, rfl, rfl, h3, hz3, htot, hk3, hf3⟩
 have hb3 := hk3.blk hb2 hx1f
 have hsz3 := hk3.size
 have done : ∀ {w' : World} {fp2 : List Nat} {z2 : Lz}, LV vs body inp B w' y fp2 z2 → Keep fp' w3 w' → (∀ k ∈ fp2, k ∈ fp' ∨ w3.heap.size ≤ k) → ∃ fp', LV vs body inp B w' y fp' z2 ∧ Keep fp w w' ∧ ∀ k ∈ fp', k ∈ fp ∨ w.heap.size ≤ k := fun {w' fp2 z2} hl hk hf => by
  refine ⟨fp2, hl, hk02.of0.tr (hk3.trans hk fun k hm => hf3 k hm), fun k hk => ?_⟩
  rcases hf k hk with h5 | h5
  ·rcases hf3 k h5 with h6 | h6
   ·exact .inl h6
   ·exact .inr (by omega)
  ·exact .inr (by omega)
 refine au ?_
 by_cases hlt : j < n
 rotate_left
 ·have hjn : j = n := by omega
  subst hjn
  refine nay ?_
  refine lB hb3 ?_
  refine au ?_
  rw [Nat.sub_self] at htot
  rw [htot]
  refine rn_ret Tryz.func140 (.inl ⟨_, rfl, rfl⟩) ⟨by simp [tearZ], done h3 (Keep.refl _ _) fun k hk => .inl hk⟩
 refine ye ?_
 obtain ⟨x, d, q, cv, iv, rd, fm, hfp, l1, l2, l3⟩ := h3
 obtain ⟨hlo3, hkc3, hmc3, _, _⟩ := hz3.lo hpf hsz hil
 obtain ⟨r, hr⟩ : ∃ r, n - j = r + 1 := ⟨n - j - 1, by omega⟩
 rw [hr] at htot
 simp only [tearZ] at htot
 have inf : ∀ k ∈ fm, k ∈ fp' := fun k hk => by rw [hfp]; simp [hk]
 refine lB l1.blk ?_
 refine oC (l2.commits hlo3) ?_
 rintro r' w4 ⟨rfl, hk4⟩
 have s4 := hk4.size
 by_cases hcm : comB (insP vs body) z'.lf.m = true
 ·rw [show comB (insSs vs body 0 ++ [haltI]) z'.lf.m = true from hcm]
  rw [if_pos hcm] at htot
  refine au ?_
  have l1' := l1.keep0 hk4
  have l2' := l2.keep0 hk4
  have hb4 := hk4.blk hb3 (by simp)
  refine rn_draw (fun w' => Keep [] w4 w') [6] hMix ?_
  have hS : Keep [] w4 w4.drew := (Keep.refl _ _).drew
  generalize w4.drew = w5 at *
  refine tk 0 ?_
  refine tk 1 ?_
  refine tk 2 ?_
  refine dr_val 3 (.pointer (some ⟨x, 0, none⟩)) rfl (by decide +kernel) rfl rfl (fun w9 hS9 => val_load1 hT rfl rfl rfl ((l1'.keep0 hS9).blk.cell rfl)) hS ?_
  refine tk 4 ?_
  refine dr_val 5 (.int .i64 K) rfl (by decide +kernel) rfl rfl (fun w9 hS9 => val_load1 hT rfl rfl rfl ((hS9.blk hb4 (by simp)).cell rfl)) hS ?_
  have l1 := l1'.keep0 hS
  have l2 := l2'.keep0 hS
  have hb5 := hS.blk hb4 (by simp)
  refine dC 6 (l2.tear hlo3.cells K) ?_
  rintro r' w6 ⟨rfl, lt6, hk6⟩
  refine ⟨fun h => absurd (by simp) h, ?_⟩
  refine dr_done (by decide +kernel) ?_
  have fmn : ∀ k ∈ fm, k ≠ y ∧ k ∉ rd := fun k hk => ⟨fun e => l3 (e ▸ hk), (l2.lt k hk).2.2⟩
  have fmx : x1 ∉ fm := fun hm => by
   rcases hf3 x1 (inf x1 hm) with h6 | h6
   ·exact hx1f h6
   ·omega
  have l6 := l1.keep hk6 fmn
  have hb6 := hk6.blk hb5 fmx
  refine lB l6.blk ?_
  refine oC (lt6.tears hlo3 (by omega) hcm hK0 hK mk (keep := kp) (by rw [hkp]; rfl)) ?_
  rintro r' w7 ⟨rfl, hk7, hcr⟩
  have l7 := l6.keep hk7 fmn
  have hb7 := hk7.blk hb6 fmx
  have s5 := hS.size
  have s6 := hk6.size
  have s7 := hk7.size
  have hyl := l6.blk.lt
  refine lB hb7 ?_
  have hz9 := hz3.one (nw := nwL) kp
  obtain ⟨_, hkc9, _, h48', _⟩ := hz9.lo hpf hsz hil
  obtain ⟨zz, hzz⟩ : ∃ zz, zz = stepZ nwL (insP vs body) inp kp z' := ⟨_, rfl⟩
  have hcr' := hcr w7 (Keep.refl _ _)
  rw [show stepZ nwL (insSs vs body 0 ++ [haltI]) inp kp z' = zz from hzz.symm] at hcr'
  rw [← hzz] at hkc9 htot
  refine pl_op rfl rfl (opTo_call (fst := []) (cap := []) rfl rfl rfl rfl (by decide +kernel) ((lifeCrash_ret (A := fun b => b ∈ fm ∨ w6.heap.size ≤ b) (mm := zz.lf.m) (W := zz.W) (k := zz.lf.k) (p := zz.lf.p) (KW := zz.KW) (g := zz.gen) l7 rfl (hcr'.mono ?_) (by
   have : (zz.lf.k.cells.length : Int) ≤ 48 := by omega
   exact Int.ofNat_le.1 this) (by omega)).mono ?_))
  ·rintro r' w9 ⟨rfl, pv, hd9, he9, hl9, hk9, hf9⟩
   refine ⟨rfl, pv, hd9, he9, hl9, hk9, fun b hb => ?_⟩
   rcases hf9 b hb with h6 | h6
   ·exact ⟨(fmn b h6).1, (fmn b h6).2, .inl h6⟩
   ·exact ⟨by omega, fun hm => by have := (l6.low b hm).2; omega, .inr h6⟩
  rintro r' w10 ⟨rfl, fp10, h10, hk10, hAd, hf10⟩
  refine nM ((j + 1 : Nat) : Int) ?_
  refine au ?_
  rw [htot]
  refine rn_ret Tryz.func140 (.inl ⟨_, rfl, rfl⟩) ⟨by simp [Nat.add_comm], done h10 ?_ ?_⟩
  ·refine (((hk4.tr hS).of0.tr (hk6.mono fun k hk => .inl (inf k hk))).tr (hk7.mono fun k hk => .inl (inf k hk))).trans hk10 fun k hk => ?_
   simp only [List.mem_cons, List.not_mem_nil, or_false] at hk
   rcases hk with hk | hk
   ·rw [hk]
    rcases hAd with h7 | h7
    ·exact .inl (inf _ h7)
    ·exact .inr (by omega)
   ·exact .inl (by rw [hfp, hk]; simp)
  ·intro k hk
   rcases hf10 k hk with h6 | h6 | h6 | h6
   ·exact .inl (by rw [hfp, h6]; simp)
   ·rcases h6 with h7 | h7
    ·exact .inl (inf k h7)
    ·exact .inr (by omega)
   ·exact .inl (by rw [hfp]; simp [h6])
   ·exact .inr (by omega)
 have hcm' : comB (insP vs body) z'.lf.m = false := by simpa using hcm
 rw [show comB (insSs vs body 0 ++ [haltI]) z'.lf.m = false from hcm']
 rw [if_neg hcm] at htot
 have l1' := l1.keep0 hk4
 have l2' := l2.keep0 hk4
 refine lB l1'.blk ?_
 by_cases hs0 : z'.lf.m.state = 0
 rotate_left
 ·rw [if_neg hs0] at htot
  refine oC (l2'.off hs0) ?_
  rintro r' w5 ⟨rfl, hk5⟩
  refine au ?_
  rw [htot]
  refine rn_ret Tryz.func140 (.inl ⟨_, rfl, rfl⟩) ⟨by simp, done (LV.put l1' l3 l2' (l2'.keep0 hk5) hk5.of0 fun k hk => .inl hk) (hk4.tr hk5).of0 fun k hk => .inl (by rw [hfp]; exact hk)⟩
 rw [if_pos hs0] at htot
 refine oC (l2'.step hlo3 (by omega) hs0) ?_
 rintro r' w5 ⟨rfl, fm', hm5, hk5, hf5⟩
 have hv5 := LV.put l1' l3 l2' hm5 hk5 hf5
 have hz5 := hz3.one (nw := nwL) true
 have hk35 : Keep fp' w3 w5 := hk4.of0.tr (hk5.mono fun k hk => .inl (inf k hk))
 refine nM ((j + 1 : Nat) : Int) ?_
 refine au ?_
 refine rn_sub ?_ (ih (n - (j + 1)) [(0, .pointer (some ⟨y, 0, none⟩)), (3, .pointer (some ⟨x1, 0, none⟩)), (7, .int .i64 (n : Nat)), (8, .int .i64 ((j + 1 : Nat) : Int))] w5 (by omega) ⟨j + 1, _, _, by omega, rfl, rfl, hv5, hz5, ?_, hk3.trans hk35 (fun k hm => hf3 k hm), ?_⟩)
 ·exact ⟨rfl, rfl, rfl, rfl, trivial⟩
 ·rw [htot, show n - (j + 1) = r by omega]
  simp only [Nat.add_assoc, Nat.add_comm 1 j]
  rfl
 ·intro k hk
  simp only [List.mem_cons, List.mem_append] at hk
  have old : k ∈ fp' → k ∈ fp ∨ w2.heap.size ≤ k := hf3 k
  rcases hk with hk | hk | hk
  ·exact old (by rw [hfp, hk]; simp)
  ·rcases hf5 k hk with h6 | h6
   ·exact old (inf k h6)
   ·exact .inr (by omega)
  ·exact old (by rw [hfp]; simp [hk])
theorem does_ret (s : Sp) (h : LV vs body inp B w y fp z) (hz : InvZ vs body inp z i) (hi : i ≤ 300000) (hpf : progFault vs body = 0) (hsz : szSs body ≤ 1000) (hil : inp.length ≤ 40) (hK : s.2.2.1 < 9223372036854775808) :
  Ret Tryz.prog 101 [.pointer (some ⟨y, 0, none⟩), .agg (spC s).toArray] w fun r w' => r = .tuple #[.int .i64 ((doZS nwL (insP vs body) inp s z).2 : Nat), .int .i64 (spFault s)] ∧ ∃ fp', LV vs body inp B w' y fp' (doZS nwL (insP vs body) inp s z).1 ∧ Keep fp w w' ∧ ∀ k ∈ fp', k ∈ fp ∨ w.heap.size ≤ k := by
 obtain ⟨kd, N, K, mk⟩ := s
 simp only at hK
 refine ret_of 29 Tryz.func101 rfl rfl (by simp) ?_
 refine au ?_
 refine pl_op rfl rfl (opTo_boxN (spC (kd, N, K, mk)) rfl rfl rfl ?_)
 intro w1 x1 hx1 hs1 hk1 hb1
 refine au ?_
 refine pl_val (.agg (spC (kd, N, K, mk)).toArray) rfl rfl (val_load (spC (kd, N, K, mk)) hT rfl rfl rfl (hb1.range (by rfl))) ?_
 refine oC (lcheck_ret (kd, N, K, mk) w1) ?_
 rintro r w2 ⟨rfl, hk2⟩
 have hk02 := hk1.tr hk2
 have hb2 := hk2.blk hb1 (by simp)
 have h2 := h.keep hk02 (fun k hk => by cases hk)
 have hsz02 := hk02.size
 refine au ?_
 by_cases hf : spFault (kd, N, K, mk) = 0
 rotate_left
 ·refine ye ?_
  refine au ?_
  unfold doZS
  rw [if_neg hf]
  exact rn_ret Tryz.func101 (.inr (.inr (.inr (.inr ⟨_, _, _, _, rfl, rfl, rfl, rfl⟩)))) ⟨rfl, fp, h2, hk02.of0, fun k hk => .inl hk⟩
 refine nay ?_
 refine lB hb2 ?_
 have hdo : doZS nwL (insP vs body) inp (kd, N, K, mk) z = doZ nwL (insP vs body) inp kd N.toNat (spKeep (kd, N, K, mk)) z := by
  unfold doZS
  rw [if_pos hf]
 rw [hdo, hf]
 have hrange : (kd = 1 ∨ kd = 2 ∨ kd = 3) ∧ (kd ≠ 2 → 0 ≤ N ∧ N ≤ 3000) ∧ (kd = 3 → 0 ≤ K) := by
  unfold spFault at hf
  simp only at hf
  split at hf
  ·omega
  ·split at hf
   ·omega
   ·refine ⟨by omega, fun _ => by omega, fun _ => by omega⟩
 obtain ⟨hlo, hkc, hmc, h48, hp0⟩ := hz.lo hpf hsz hil
 have late : ∀ {fp' : List Nat}, (∀ k ∈ fp', k ∈ fp ∨ w2.heap.size ≤ k) → ∀ k ∈ fp', k ∈ fp ∨ w.heap.size ≤ k := fun {fp'} h k hk => by
  rcases h k hk with h6 | h6
  ·exact .inl h6
  ·exact .inr (by omega)
 refine au ?_
 by_cases h1 : kd = 1
 ·obtain ⟨n, rfl⟩ : ∃ n : Nat, N = (n : Int) := ⟨N.toNat, by have := (hrange.2.1 (by omega)).1; omega⟩
  have hn3 := (hrange.2.1 (by omega)).2
  refine ye ?_
  refine lB hb2 ?_
  refine oC (lifeRun_ret n h2 hz hi hpf hsz hil (by omega)) ?_
  rintro r w3 ⟨rfl, fp', h3, hk3, hf3⟩
  refine au ?_
  have e : doZ nwL (insP vs body) inp kd ((n : Int)).toNat (spKeep (kd, (n : Int), K, mk)) z = runZ nwL (insP vs body) inp n z := by
   unfold doZ
   rw [if_neg (by omega), if_neg (by omega), Int.toNat_natCast]
  rw [e]
  exact rn_ret Tryz.func101 (.inr (.inr (.inr (.inr ⟨_, _, _, _, rfl, rfl, rfl, rfl⟩)))) ⟨rfl, fp', h3, hk02.of0.tr hk3, late hf3⟩
 refine nay ?_
 refine au ?_
 by_cases h3 : kd = 3
 ·obtain ⟨n, rfl⟩ : ∃ n : Nat, N = (n : Int) := ⟨N.toNat, by have := (hrange.2.1 (by omega)).1; omega⟩
  have hn3 := (hrange.2.1 (by omega)).2
  refine ye ?_
  refine au ?_
  refine pl_val (.agg (spC (kd, (n : Int), K, mk)).toArray) rfl rfl (val_load (spC (kd, (n : Int), K, mk)) hT rfl rfl rfl (hb2.range (by rfl))) ?_
  refine oC (lifeTear_ret (kp := spKeep (kd, (n : Int), K, mk)) h2 hz hi hpf hsz hil (by omega) (hrange.2.2 h3) hK rfl) ?_
  rintro r w3 ⟨rfl, fp', h3', hk3, hf3⟩
  refine au ?_
  have e : doZ nwL (insP vs body) inp kd ((n : Int)).toNat (spKeep (kd, (n : Int), K, mk)) z = tearZ nwL (insP vs body) inp (spKeep (kd, (n : Int), K, mk)) n z := by
   unfold doZ
   rw [if_neg (by omega), if_pos h3, Int.toNat_natCast]
  rw [e]
  exact rn_ret Tryz.func101 (.inr (.inr (.inr (.inr ⟨_, _, _, _, rfl, rfl, rfl, rfl⟩)))) ⟨rfl, fp', h3', hk02.of0.tr hk3, late hf3⟩
 refine nay ?_
 refine lB hb2 ?_
 obtain ⟨x, d, q, cv, iv, rd, fm, rfl, l1, l2, l3⟩ := h2
 refine oC (lifeCrash_ret (A := fun b => b ∈ fm) (mm := z.lf.m) (W := z.W) (k := z.lf.k) (p := z.lf.p) (KW := z.KW) (g := z.gen) l1 rfl ((l2.crash mk).mono ?_) (by omega) (by omega)) ?_
 ·rintro r w4 ⟨rfl, pv, hd4, hk4, hf4⟩
  exact ⟨rfl, pv, hd4, l2.2.1, l2.2.2, hk4, fun b hb => ⟨fun e => l3 (e ▸ hf4 b hb), (l2.lt b (hf4 b hb)).2.2, hf4 b hb⟩⟩
 rintro r w5 ⟨rfl, fp', h5, hk5, hAd, hf5⟩
 refine au ?_
 have e : doZ nwL (insP vs body) inp kd N.toNat (spKeep (kd, N, K, mk)) z = (wakeZ z, 0) := by
  unfold doZ
  rw [if_pos (by omega)]
 rw [e]
 refine rn_ret Tryz.func101 (.inr (.inr (.inr (.inr ⟨_, _, _, _, rfl, rfl, rfl, rfl⟩)))) ⟨rfl, fp', h5, ?_, ?_⟩
 ·refine hk02.of0.tr (hk5.mono fun k hk => .inl ?_)
  simp only [List.mem_cons, List.not_mem_nil, or_false] at hk
  rcases hk with hk | hk
  ·rw [hk]; simp [hAd]
  ·rw [hk]; simp
 ·intro b hb
  rcases hf5 b hb with h6 | h6 | h6 | h6
  ·exact .inl (by simp [h6])
  ·exact .inl (by simp [h6])
  ·exact .inl (by simp [h6])
  ·exact .inr (by omega)
end
end
section
open Go.Proofs
abbrev tMk : Nat := 249
abbrev tIn : Nat := 252
theorem neMI : tMk ≠ tIn := by decide
structure Mf (w w' : World) : Prop where
 size : w.heap.size ≤ w'.heap.size
 blk : ∀ {c : Nat} {L : List Value} {e : TypeId}, Blk w c L e → e ≠ tMk → e ≠ tIn → Blk w' c L e
theorem Mf.refl (w : World) : Mf w w := ⟨Nat.le_refl _, fun h _ _ => h⟩
theorem Mf.tr {w w' w'' : World} (h : Mf w w') (h' : Mf w' w'') : Mf w w'' := ⟨Nat.le_trans h.size h'.size, fun hb h1 h2 => h'.blk (h.blk hb h1 h2) h1 h2⟩
theorem Mf.of0 {w w' : World} (h : Keep [] w w') : Mf w w' := ⟨h.size, fun hb _ _ => h.blk hb (by simp)⟩
theorem Mf.of {w w' : World} {fp : List Nat} (h : Keep fp w w') (hf : ∀ k ∈ fp, ∃ L e, Blk w k L e ∧ (e = tMk ∨ e = tIn)) : Mf w w' :=
 ⟨h.size, fun hb h1 h2 => h.blk hb fun hm => by
  obtain ⟨L, e, hb', he⟩ := hf _ hm
  rcases he with he | he
  ·exact Blk.ne hb hb' (fun h => h1 (h.trans he)) rfl
  ·exact Blk.ne hb hb' (fun h => h2 (h.trans he)) rfl⟩
structure Mk (w0 w : World) (b : Nat) (v : Value) (l : List Is) (vv bv : Value) : Prop where
 kp : Keep [] w0 w
 ge : w0.heap.size ≤ b
 bk : Blk w b [v, vv, bv] tMk
 row : RowI tIn w w0.heap.size v l
def Mt (w0 w : World) (b : Nat) (l : List Is) (vv bv : Value) : Prop := ∃ v, Mk w0 w b v l vv bv
section
variable {w0 w w1 w2 : World} {b B : Nat} {v v' vv bv : Value} {l l' : List Is}
theorem mrow_blk (h : RowI tIn w B v l) : ∀ k ∈ v.ownBlock.toList, ∃ X, Blk w k X tIn := by
 intro k hk
 rcases h.2 with ⟨rfl, _⟩ | ⟨g, cap, cur, rfl, _, hg, _⟩
 ·simp [Value.ownBlock] at hk
 ·have : k = g := by simpa [Value.ownBlock] using hk
  subst this
  exact ⟨cur, hg⟩
theorem mrow_ne (h : RowI tIn w B v l) {X : List Value} (hb : Blk w b X tMk) : ∀ k ∈ v.ownBlock.toList, k ≠ b := by
 intro k hk
 obtain ⟨Y, hY⟩ := mrow_blk h k hk
 exact (Blk.ne hb hY neMI).symm
theorem Mk.keep0 (h : Mk w0 w b v l vv bv) (hk : Keep [] w w1) : Mk w0 w1 b v l vv bv := ⟨h.kp.tr hk, h.ge, hk.blk h.bk (by simp), h.row.keep0 hk⟩
theorem Mt.keep0 (h : Mt w0 w b l vv bv) (hk : Keep [] w w1) : Mt w0 w1 b l vv bv := let ⟨v, h⟩ := h; ⟨v, h.keep0 hk⟩
theorem Mt.kp (h : Mt w0 w b l vv bv) : Keep [] w0 w := let ⟨_, h⟩ := h; h.kp
theorem Mk.bkA (h : Mk w0 w b v l vv bv) (hk : Keep v.ownBlock.toList w w1) : Blk w1 b [v, vv, bv] tMk := hk.blk h.bk fun hm => mrow_ne h.row h.bk b hm rfl
theorem Mk.app (h : Mk w0 w b v l vv bv) (hk : Keep v.ownBlock.toList w w1) (hrow : RowI tIn w1 w0.heap.size v' l') (hk2 : Keep [b] w1 w2) (hb : Blk w2 b [v', vv, bv] tMk) : Mk w0 w2 b v' l' vv bv ∧ Mf w w2 := by
 have hb1 := h.bkA hk
 refine ⟨⟨(h.kp.trans hk fun k hm => .inr (h.row.own k hm).1).trB hk2 h.ge, h.ge, hb, ?_⟩, ?_⟩
 ·exact Own.keep hrow hk2 fun k hv hm => mrow_ne hrow hb1 k (by simpa using hv) (List.mem_singleton.1 hm)
 ·refine Mf.tr (Mf.of hk fun k hm => ?_) (Mf.of hk2 fun k hm => ⟨[v, vv, bv], tMk, by rw [List.mem_singleton.1 hm]; exact hb1, .inl rfl⟩)
  obtain ⟨X, hX⟩ := mrow_blk h.row k hm
  exact ⟨X, tIn, hX, .inr rfl⟩
end
theorem built_mi03 (a n : Int) : Tryz.prog.built tIn [(0, .int .i64 a), (3, .int .i64 n)] = some (iC (a, 0, 0, n)).toArray := by kernel_rfl
theorem built_mi0 (a : Int) : Tryz.prog.built tIn [(0, .int .i64 a)] = some (iC (a, 0, 0, 0)).toArray := by kernel_rfl
theorem built_mi1 (a b : Int) : Tryz.prog.built tIn [(0, .int .i64 a), (1, .int .i64 b)] = some (iC (a, b, 0, 0)).toArray := by kernel_rfl
theorem built_mi2 (a b c : Int) : Tryz.prog.built tIn [(0, .int .i64 a), (1, .int .i64 b), (2, .int .i64 c)] = some (iC (a, b, c, 0)).toArray := by kernel_rfl
theorem zero_mi : ((Tryz.prog.info? tIn).bind (·.zero)).map (·.cells) = some (iC (0, 0, 0, 0)).toArray := by kernel_rfl
theorem size_mi : sizeOk Tryz.prog tIn 4 = true := by kernel_rfl
theorem size_mn : sizeOk Tryz.prog 3 1 = true := by kernel_rfl
theorem size_ms : sizeOk Tryz.prog 163 1 = true := by kernel_rfl
theorem slice_mi (x : Is) : sliceCells Tryz.prog 163 1 [(0, .agg (iC x).toArray)] = some (tIn, (iC x).toArray) := by
 obtain ⟨a, b, c, d⟩ := x
 kernel_rfl
theorem app_mi : appOk Tryz.prog 163 tIn 4 32 = true := by decide +kernel
theorem iC_mone (x : Is) : ∀ u ∈ iC x, u.oneCell' = true := by
 intro u hu
 simp only [iC, List.mem_cons, List.not_mem_nil, or_false] at hu
 rcases hu with rfl | rfl | rfl | rfl <;> rfl
theorem mone {v : Value} (h : v.oneCell' = true) : ∀ u ∈ [v], u.oneCell' = true := by
 intro u hu
 simp only [List.mem_cons, List.not_mem_nil, or_false] at hu
 subst hu
 exact h
theorem ins_mi {w : World} {b e : Nat} {x : Is} (hb : Blk w b (iC x) e) : InsV (fun c => c = b) w (.slice (some ⟨b, 0, none⟩) 1 1) [x] :=
 ⟨_, 1, rfl, fun _ => ⟨b, 0, rfl, rfl, hb.range (by simp [isC, iC])⟩⟩
theorem splice_in (A R : List Value) (x y z : Value) : splice (A ++ x :: y :: R) (A.length + 1) [z] = A ++ x :: z :: R := by
 have e1 : (A ++ x :: y :: R).take (A.length + 1) = A ++ [x] := by
  rw [List.take_append, List.take_of_length_le (by omega), Nat.add_sub_cancel_left]
  rfl
 have e2 : (A ++ x :: y :: R).drop (A.length + 1 + 1) = R := by
  rw [List.drop_append, List.drop_of_length_le (by omega), show A.length + 1 + 1 - A.length = 2 by omega]
  rfl
 unfold splice
 rw [e1, show A.length + 1 + [z].length = A.length + 1 + 1 from rfl, e2]
 simp
theorem isC_mid (p r : List Is) (x : Is) : isC (p ++ x :: r) = isC p ++ .int .i64 x.1 :: .int .i64 x.2.1 :: .int .i64 x.2.2.1 :: .int .i64 x.2.2.2 :: isC r := by
 simp [isC, iC]
theorem splice_row {cur : List Value} {p r : List Is} {op a c n : Int} (m : Int) (h : cur.take ((p ++ (op, a, c, n) :: r).length * 4) = isC (p ++ (op, a, c, n) :: r)) :
  (splice cur (0 + p.length * 4 + 1) [.int .i64 m]).take ((p ++ (op, a, c, n) :: r).length * 4) = isC (p ++ (op, m, c, n) :: r) := by
 obtain ⟨T, hT⟩ : ∃ T, T = cur.drop ((p ++ (op, a, c, n) :: r).length * 4) := ⟨_, rfl⟩
 have hc : cur = isC (p ++ (op, a, c, n) :: r) ++ T := by rw [hT, ← h, List.take_append_drop]
 have hp : 0 + p.length * 4 + 1 = (isC p).length + 1 := by rw [isC_length]; omega
 have hl : (p ++ (op, a, c, n) :: r).length * 4 = (isC (p ++ (op, m, c, n) :: r)).length := by rw [isC_length]; simp
 have e : splice cur (0 + p.length * 4 + 1) [.int .i64 m] = isC (p ++ (op, m, c, n) :: r) ++ T := by
  rw [hc, hp, isC_mid, isC_mid]
  simp only [List.append_assoc, List.cons_append]
  exact splice_in (isC p) _ _ _ _
 rw [e, hl, List.take_left']
 rfl
structure CxK (vs : List VarT) (bd : List ST) (F : Nat → Prop) (w0 : World) (vv bv : Value) : Prop where
 pr : ProgV F w0 (.agg #[vv, bv]) vs bd
 hF : In F w0
 sz : Sized vs
section
variable {w0 w : World} {b : Nat} {v vv bv : Value} {l : List Is}
theorem mnext_ret (h : Mk w0 w b v l vv bv) : Ret Tryz.prog 204 [.pointer (some ⟨b, 0, none⟩)] w fun r w' => r = .int .i64 (l.length : Nat) ∧ w' = w := by
 obtain ⟨a, cap, rfl⟩ := h.row.form
 refine ret_of 8 Tryz.func204 rfl rfl (by simp) ?_
 refine lB h.bk ?_
 refine au ?_
 exact rn_ret Tryz.func204 (.inl ⟨_, rfl, rfl⟩) ⟨rfl, rfl⟩
theorem madd_ret (h : Mt w0 w b l vv bv) (x : Is) (hl : l.length ≤ 900000) : Ret Tryz.prog 171 [.pointer (some ⟨b, 0, none⟩), .agg (iC x).toArray] w fun r w' => r = .int .i64 (l.length : Nat) ∧ Mt w0 w' b (l ++ [x]) vv bv ∧ Mf w w' := by
 obtain ⟨v, h⟩ := h
 obtain ⟨a, cap, rfl⟩ := h.row.form
 refine ret_of 19 Tryz.func171 rfl rfl (by simp) ?_
 refine au ?_
 refine pl_op rfl rfl (opTo_boxN (iC x) rfl rfl rfl ?_)
 intro w1 x1 hx1 hs1 hk1 hX1
 have h1 := h.keep0 hk1
 refine oC (mnext_ret h1) ?_
 rintro r w1' ⟨rfl, hww⟩
 rw [hww]
 refine au ?_
 refine rn_draw (fun w' => Keep [] w1 w') [7, 10] hMix ?_
 have hS : Keep [] w1 w1.drew := (Keep.refl _ _).drew
 generalize w1.drew = w2 at *
 refine tk 0 ?_
 refine tk 1 ?_
 refine tk 2 ?_
 refine tk 3 ?_
 refine dr_val 4 (.slice a l.length cap) rfl (by decide +kernel) rfl rfl (fun w9 hS9 => val_load1 hT rfl rfl rfl ((hS9.blk h1.bk (by simp)).cell rfl)) hS ?_
 refine dr_val 5 (.agg (iC x).toArray) rfl (by decide +kernel) rfl rfl (fun w9 hS9 => val_load (iC x) hT rfl rfl rfl ((hS9.blk hX1 (by simp)).range (by rfl))) hS ?_
 refine dr_op 6 rfl (by decide +kernel) rfl rfl (opTo_sliceN tIn (iC x) rfl rfl (slice_mi x) ?_)
 intro w3 g hg hs3 hk3 hb3
 refine ⟨fun _ => hS.tr hk3, ?_⟩
 have h3 := h1.keep0 (hS.tr hk3)
 refine dr_op 7 rfl (by decide +kernel) rfl rfl (opTo_rowApp l [x] rfl rfl rfl app_mi h3.row (ins_mi hb3) (by simp; omega) h3.kp.size ?_)
 intro v4 w4 hrow4 hk4
 refine ⟨fun h => absurd (by simp) h, ?_⟩
 obtain ⟨a4, c4, rfl⟩ := hrow4.form
 refine tk 8 ?_
 refine tk 9 ?_
 refine dr_op 10 rfl (by decide +kernel) rfl rfl (opTo_storeN [.slice a4 (l ++ [x]).length c4] rfl rfl rfl rfl size_ms (h3.bkA hk4) (by simp) (mone rfl) ?_)
 intro w5 hs5 hk5 hb5
 refine ⟨fun h => absurd (by simp) h, ?_⟩
 refine dr_done (by decide +kernel) ?_
 obtain ⟨h5, hm5⟩ := h3.app hk4 hrow4 hk5 hb5
 refine au ?_
 exact rn_ret Tryz.func171 (.inl ⟨_, rfl, rfl⟩) ⟨rfl, ⟨_, h5⟩, (Mf.of0 (hk1.tr (hS.tr hk3))).tr hm5⟩
theorem mlead_ret {p r : List Is} {op a c n : Int} (h : Mt w0 w b (p ++ (op, a, c, n) :: r) vv bv) : Ret Tryz.prog 257 [.pointer (some ⟨b, 0, none⟩), .int .i64 (p.length : Nat)] w fun r' w' => r' = .tuple #[] ∧ Mt w0 w' b (p ++ (op, (((p ++ (op, a, c, n) :: r).length : Nat) : Int), c, n) :: r) vv bv ∧ Mf w w' := by
 obtain ⟨v, h⟩ := h
 obtain ⟨L, hL⟩ : ∃ L, L = p ++ (op, a, c, n) :: r := ⟨_, rfl⟩
 have hlen : L.length = p.length + 1 + r.length := by rw [hL]; simp; omega
 rw [← hL] at h
 rcases h.row.2 with ⟨_, h0⟩ | ⟨g, cap, cur, rfl, hB, hb, hc, hl, ht⟩
 ·omega
 refine ret_of 13 Tryz.func257 rfl rfl (by simp) ?_
 refine au ?_
 refine rn_draw (fun w' => Keep [] w w') [9] hMix ?_
 have hS : Keep [] w w.drew := (Keep.refl _ _).drew
 generalize w.drew = w2 at *
 refine tk 0 ?_
 refine tk 1 ?_
 refine tk 2 ?_
 refine dr_val 3 (.slice (some ⟨g, 0, none⟩) L.length cap) rfl (by decide +kernel) rfl rfl (fun w9 hS9 => val_load1 hT rfl rfl rfl ((hS9.blk h.bk (by simp)).cell rfl)) hS ?_
 refine tk 4 ?_
 refine tk 5 ?_
 refine dC 6 (mnext_ret (h.keep0 hS)) ?_
 rintro r' w2' ⟨rfl, hww⟩
 rw [hww]
 refine ⟨fun _ => hS, ?_⟩
 refine dr_any 7 _ rfl (by decide +kernel) rfl rfl (fun w => val_index p.length hT rfl rfl rfl rfl rfl (by omega) w) ?_
 refine tk 8 ?_
 have hb2 := hS.blk hb (by simp)
 refine dr_op 9 rfl (by decide +kernel) rfl rfl (opTo_storeN [.int .i64 (L.length : Nat)] rfl rfl rfl rfl size_mn hb2 (by simp; omega) (mone rfl) ?_)
 intro w3 hs3 hk3 hb3
 refine ⟨fun h => absurd (by simp) h, ?_⟩
 refine dr_done (by decide +kernel) ?_
 have h2 := h.keep0 hS
 have hgb : g ≠ b := Blk.ne hb h.bk neMI.symm
 refine au ?_
 refine rn_end Tryz.func257 (.inr (.inl ⟨rfl, rfl⟩)) ⟨rfl, ⟨.slice (some ⟨g, 0, none⟩) L.length cap, h2.kp.trB hk3 hB, h.ge, hk3.blk h2.bk (by simpa using hgb.symm), ?_⟩, (Mf.of0 hS).tr (Mf.of hk3 fun k hm => ⟨cur, tIn, by rw [List.mem_singleton.1 hm]; exact hb2, .inr rfl⟩)⟩
 have e : (p ++ (op, (((p ++ (op, a, c, n) :: r).length : Nat) : Int), c, n) :: r).length = L.length := by rw [hL]; simp
 refine ⟨isC_length _, .inr ⟨g, cap, _, by rw [e], hB, hb3, by rw [e]; exact hc, by rw [splice_length (by simp; omega)]; exact hl, ?_⟩⟩
 rw [e]
 rw [hL] at ht ⊢
 exact splice_row _ ht
theorem mcell_ret {vs : List VarT} {bd : List ST} {F : Nat → Prop} (C : CxK vs bd F w0 vv bv) (h : Mk w0 w b v l vv bv) (k : Int) : Ret Tryz.prog 225 [.pointer (some ⟨b, 0, none⟩), .int .i64 k] w fun r w' => r = .int .i64 (cellOf vs k) ∧ Keep [] w w' := by
 refine ret_of 11 Tryz.func225 rfl rfl (by simp) ?_
 refine au ?_
 refine pl_val (.agg #[vv, bv]) rfl rfl (val_load [vv, bv] hT rfl rfl rfl (h.bk.range (by rfl))) ?_
 refine oC (cell_ret (C.pr.keep h.kp C.hF.stays) (C.hF.keep h.kp) C.sz k) ?_
 rintro r w1 ⟨rfl, hk1⟩
 refine au ?_
 exact rn_ret Tryz.func225 (.inl ⟨_, rfl, rfl⟩) ⟨rfl, hk1⟩
theorem msize_ret {vs : List VarT} {bd : List ST} {F : Nat → Prop} (C : CxK vs bd F w0 vv bv) (h : Mk w0 w b v l vv bv) (k : Int) (h0 : 0 ≤ k) (hk : k.toNat < vs.length) : Ret Tryz.prog 226 [.pointer (some ⟨b, 0, none⟩), .int .i64 k] w fun r w' => r = .int .i64 (sizeV vs k) ∧ w' = w := by
 obtain ⟨k, rfl⟩ : ∃ k' : Nat, k = (k' : Nat) := ⟨k.toNat, by omega⟩
 simp only [Int.toNat_natCast] at hk
 have hxv : vs[k]? = some vs[k] := List.getElem?_eq_getElem hk
 obtain ⟨vv', bv', hpe, hv, _⟩ := C.pr
 cases hpe
 obtain ⟨vb, vq, vc, rfl, hFv, hrv⟩ := hv.at hxv
 have hsv : sizeV vs ((k : Nat) : Int) = vs[k].2 := by
  unfold sizeV
  rw [Int.toNat_natCast, List.getD_eq_getElem?_getD, hxv]
  rfl
 rw [hsv]
 refine ret_of 14 Tryz.func226 rfl rfl (by simp) ?_
 refine lB h.bk ?_
 refine au ?_
 refine pl_val _ rfl rfl (val_index k hT rfl rfl rfl rfl rfl hk w) ?_
 refine au ?_
 refine pl_val _ rfl rfl (val_load1 hT rfl rfl rfl ((range_keep hrv h.kp (C.hF _ hFv) (by simp)) 1 (.int .i64 vs[k].2) rfl)) ?_
 refine au ?_
 exact rn_ret Tryz.func226 (.inl ⟨_, rfl, rfl⟩) ⟨rfl, rfl⟩
end
end
section
open Go.Proofs
theorem neEM : 141 ≠ tMk := by decide
theorem neEI : 141 ≠ tIn := by decide
theorem zero_me : ((Tryz.prog.info? 141).bind (·.zero)).map (·.cells) = some [Value.int .i64 0, .int .i64 0, .int .i64 0, .slice none 0 0].toArray := by kernel_rfl
theorem size_me : sizeOk Tryz.prog 141 4 = true := by kernel_rfl
def ExM (vs : List VarT) (F : Nat → Prop) (w0 : World) (b : Nat) (vv bv : Value) (s : Nat) : Prop := ∀ (t : ET), szE t < s → gdE vs.length t → ∀ {w : World} {cs : List Value} {L : List Is}, ExprV F w0 cs t → Mt w0 w b L vv bv → L.length + szE t ≤ 900000 →
  Ret Tryz.prog 224 [.pointer (some ⟨b, 0, none⟩), .agg cs.toArray] w fun r w' => r = .tuple #[] ∧ Mt w0 w' b (L ++ insE vs t) vv bv ∧ Mf w w'
theorem mexpr_ret {vs : List VarT} {bd : List ST} {F : Nat → Prop} {w0 : World} {vv bv : Value} (C : CxK vs bd F w0 vv bv) {b : Nat} : ∀ (s : Nat), ExM vs F w0 b vv bv s := by
 intro s
 induction s with
 | zero => intro t ht; omega
 | succ s ihs =>
  intro t ht hgd w cs L hX h hl
  obtain ⟨op, v, n, l⟩ := t
  obtain ⟨lv, rfl, hE⟩ := hX.inv
  obtain ⟨a, cap, rfl⟩ := hE.form
  obtain ⟨hg1, hg2⟩ := hgd
  simp only [szE] at ht hl
  have hlen := szEs_len l
  have hil := insEs_len vs l
  refine ret_of 49 Tryz.func224 rfl rfl (by simp) ?_
  refine au ?_
  refine pl_op rfl rfl (opTo_boxN [.int .i64 op, .int .i64 v, .int .i64 n, .slice a l.length cap] rfl rfl rfl ?_)
  intro w1 x1 hx1 hs1 hk1 hX1
  have h1 := h.keep0 hk1
  refine auj ?_
  refine rn_seq ?_
  refine rn_seq ?_
  refine auj ?_
  refine rn_plain ?_
  refine auj ?_
  refine lB hX1 ?_
  refine au ?_
  refine rn_ind (fun m σ w' => ∃ i : Nat, i ≤ l.length ∧ m = l.length - i ∧ σ = [(0, .pointer (some ⟨b, 0, none⟩)), (3, .pointer (some ⟨x1, 0, none⟩)), (8, .slice a l.length cap), (9, .int .i64 (l.length : Nat)), (10, .int .i64 (i : Nat))] ∧ Mt w0 w' b (L ++ insEs vs (l.take i)) vv bv ∧ Mf w1 w') l.length _ ?_ ⟨0, by omega, by omega, rfl, by simpa [insEs] using h1, Mf.refl _⟩ ?_
  ·exact ⟨rfl, rfl, rfl, rfl, rfl, trivial⟩
  rintro m σ w6 ih ⟨i, hi, rfl, rfl, h6, ho6⟩
  refine au ?_
  by_cases hlt : i < l.length
  ·refine ye ?_
   have hxi : l[i]? = some l[i] := List.getElem?_eq_getElem hlt
   obtain ⟨b1, q1, c1, ci, hv1, hF1, hr1, hc1⟩ := hE.at hxi
   cases hv1
   have hszi := szEs_succ hxi
   have hszt := szEs_take l (i + 1)
   have hl1 := insEs_len vs (l.take i)
   have htk := insEs_take vs hxi
   refine au ?_
   refine pl_val _ rfl rfl (val_index i hT rfl rfl rfl rfl rfl hlt w6) ?_
   refine pl_val (.agg ci.toArray) rfl rfl (val_load ci hT rfl rfl (by rw [hc1.length]; rfl) (range_keep hr1 h6.kp (C.hF _ hF1) (by simp))) ?_
   refine pl_op rfl rfl (opTo_allocN _ rfl zero_me ?_)
   intro w7 x2 hx2 hs7 hk7 hb7
   refine pl_op rfl rfl (opTo_storeN ci rfl rfl rfl rfl (by rw [hc1.length]; exact size_me) hb7 (by rw [hc1.length]; simp) hc1.one ?_)
   intro w8 hs8 hk8 hb8
   rw [splice_whole (by rw [hc1.length]; rfl)] at hb8
   have hk68 : Keep [] w6 w8 := hk7.trB hk8 (by omega)
   refine au ?_
   refine pl_val (.agg ci.toArray) rfl rfl (val_load ci hT rfl rfl (by rw [hc1.length]; rfl) (hb8.range (by simp))) ?_
   refine oC (ihs l[i] (by omega) (gdEs_at hg2 hxi) hc1 (h6.keep0 hk68) (by simp only [List.length_append]; omega)) ?_
   rintro r w9 ⟨rfl, h9, ho9⟩
   refine nM ((i + 1 : Nat) : Int) ?_
   refine au ?_
   refine rn_sub ?_ (ih (l.length - (i + 1)) [(0, .pointer (some ⟨b, 0, none⟩)), (3, .pointer (some ⟨x1, 0, none⟩)), (8, .slice (some ⟨b1, q1, none⟩) l.length cap), (9, .int .i64 (l.length : Nat)), (10, .int .i64 ((i + 1 : Nat) : Int))] w9 (by omega) ⟨i + 1, by omega, rfl, rfl, ?_, (ho6.tr (Mf.of0 hk68)).tr ho9⟩)
   ·exact ⟨rfl, rfl, rfl, rfl, rfl, trivial⟩
   ·rw [htk, ← List.append_assoc]
    exact h9
  ·refine nay ?_
   rw [List.take_of_length_le (by omega)] at h6
   have hX6 := ho6.blk hX1 neEM neEI
   refine lB hX6 ?_
   refine lB hX6 ?_
   refine pl_val _ rfl rfl (val_build _ rfl rfl (built_mi03 op n) w6) ?_
   refine pl_op rfl rfl (opTo_allocN _ rfl zero_mi ?_)
   intro w7 x7 hx7 hs7 hk7 hb7
   refine pl_op rfl rfl (opTo_storeN (iC (op, 0, 0, n)) rfl rfl rfl rfl size_mi hb7 (by simp [iC]) (iC_mone _) ?_)
   intro w8 hs8 hk8 hb8
   rw [splice_whole (by rfl)] at hb8
   have hk68 : Keep [] w6 w8 := hk7.trB hk8 (by omega)
   have hX8 := hk68.blk hX6 (by simp)
   obtain ⟨mv, h8⟩ := h6.keep0 hk68
   refine auj ?_
   refine rn_seq ?_
   refine rn_with (fun σ' w' => Blk w' x7 (iC (op, if op = 2 ∨ op = 3 then cellOf vs v else 0, if op = 3 then sizeV vs v else 0, n)) tIn ∧ Keep [] w6 w' ∧ Sub [(0, .pointer (some ⟨b, 0, none⟩)), (6, .pointer (some ⟨x7, 0, none⟩))] σ') ?_ ?_
   rotate_left
   ·intro fin
    refine lB hX8 ?_
    refine au ?_
    by_cases h2 : op = 2
    ·rw [if_pos (.inl h2), if_neg (by omega)] at fin
     refine ye ?_
     refine auj ?_
     refine rn_plain ?_
     refine auj ?_
     refine lB hX8 ?_
     refine oC (mcell_ret C h8 v) ?_
     rintro r w9 ⟨rfl, hk9⟩
     refine au ?_
     refine pl_op rfl rfl (opTo_storeN [.int .i64 (cellOf vs v)] rfl rfl rfl rfl size_mn (hk9.blk hb8 (by simp)) (by simp [iC]) (mone rfl) ?_)
     intro w10 hs10 hk10 hb10
     refine auj ?_
     exact fin _ _ ⟨hb10, (hk68.tr hk9).trB hk10 (by omega), rfl, rfl, trivial⟩
    ·refine nay ?_
     refine au ?_
     by_cases h3 : op = 3
     ·obtain ⟨hv0, hvl⟩ := hg1 (.inr h3)
      rw [if_pos (.inr h3), if_pos h3] at fin
      refine ye ?_
      refine auj ?_
      refine rn_draw (fun w' => Keep [] w8 w') [9, 11] hMix ?_
      have hS : Keep [] w8 w8.drew := (Keep.refl _ _).drew
      generalize w8.drew = w9 at *
      refine tk 0 ?_
      refine tk 1 ?_
      refine dr_val 2 (.int .i64 v) rfl (by decide +kernel) rfl rfl (fun w9 hS9 => val_load1 hT rfl rfl rfl ((hS9.blk hX8 (by simp)).cell rfl)) hS ?_
      refine tk 4 ?_
      refine tk 5 ?_
      refine dr_val 6 (.int .i64 v) rfl (by decide +kernel) rfl rfl (fun w9 hS9 => val_load1 hT rfl rfl rfl ((hS9.blk hX8 (by simp)).cell rfl)) hS ?_
      refine dC 3 (mcell_ret C (h8.keep0 hS) v) ?_
      rintro r w10 ⟨rfl, hk10⟩
      have hS10 := hS.tr hk10
      refine ⟨fun _ => hS10, ?_⟩
      refine tk 8 ?_
      refine dC 7 (msize_ret C (h8.keep0 hS10) v hv0 hvl) ?_
      rintro r w10' ⟨rfl, hww⟩
      rw [hww]
      refine ⟨fun _ => hS10, ?_⟩
      refine dr_op 9 rfl (by decide +kernel) rfl rfl (opTo_storeN [.int .i64 (cellOf vs v)] rfl rfl rfl rfl size_mn (hS10.blk hb8 (by simp)) (by simp [iC]) (mone rfl) ?_)
      intro w11 hs11 hk11 hb11
      refine ⟨fun h => absurd (by simp) h, ?_⟩
      refine tk 10 ?_
      refine dr_op 11 rfl (by decide +kernel) rfl rfl (opTo_storeN [.int .i64 (sizeV vs v)] rfl rfl rfl rfl size_mn hb11 (by simp [iC, splice]) (mone rfl) ?_)
      intro w12 hs12 hk12 hb12
      refine ⟨fun h => absurd (by simp) h, ?_⟩
      refine dr_done (by decide +kernel) ?_
      refine auj ?_
      exact fin _ _ ⟨hb12, ((hk68.tr hS10).trB hk11 (by omega)).trB hk12 (by omega), rfl, rfl, trivial⟩
     ·refine nay ?_
      rw [if_neg (by omega), if_neg h3] at fin
      refine auj ?_
      exact fin _ _ ⟨hb8, hk68, rfl, rfl, trivial⟩
   clear hb8 hk8 hs8 h8 hX8 hk68
   rintro σ' w10 ⟨hb10, hk610, hsub⟩
   refine rn_sub hsub ?_
   obtain ⟨X, hXe⟩ : ∃ X : Is, X = (op, if op = 2 ∨ op = 3 then cellOf vs v else 0, if op = 3 then sizeV vs v else 0, n) := ⟨_, rfl⟩
   rw [← hXe] at hb10
   refine rn_draw (fun w' => Keep [] w10 w') [4] hMix ?_
   have hS : Keep [] w10 w10.drew := (Keep.refl _ _).drew
   generalize w10.drew = w11 at *
   refine tk 0 ?_
   refine tk 1 ?_
   refine tk 2 ?_
   refine dr_val 3 (.agg (iC X).toArray) rfl (by decide +kernel) rfl rfl (fun w9 hS9 => val_load (iC X) hT rfl rfl rfl ((hS9.blk hb10 (by simp)).range (by rfl))) hS ?_
   refine dC 4 (madd_ret (h6.keep0 (hk610.tr hS)) X (by simp only [List.length_append]; omega)) ?_
   rintro r w12 ⟨rfl, h12, ho12⟩
   refine ⟨fun h => absurd (by simp) h, ?_⟩
   refine dr_done (by decide +kernel) ?_
   refine au ?_
   refine rn_end Tryz.func224 (.inr (.inl ⟨rfl, rfl⟩)) ⟨rfl, ?_, ((Mf.of0 hk1).tr ho6).tr ((Mf.of0 (hk610.tr hS)).tr ho12)⟩
   simp only [insE]
   rw [← hXe, ← List.append_assoc]
   exact h12
end
section
open Go.Proofs
theorem neSM : 143 ≠ tMk := by decide
theorem neSI : 143 ≠ tIn := by decide
theorem zero_mt : ((Tryz.prog.info? 143).bind (·.zero)).map (·.cells) = some stmtZ.toArray := by kernel_rfl
theorem size_mt : sizeOk Tryz.prog 143 12 = true := by kernel_rfl
theorem list4m {l : List Value} (h : l.length = 4) : ∃ a b c d, l = [a, b, c, d] := by
 match l, h with
 | [a, b, c, d], _ => exact ⟨a, b, c, d, rfl⟩
def whT (i0 : Nat) (L X : List Is) : List Is := L ++ (13, ((L.length + 1 + X.length + 1 : Nat) : Int), 0, 0) :: (X ++ [(14, ((i0 : Nat) : Int), 0, 0)])
def ifT (L X Y : List Is) : List Is := L ++ (13, ((L.length + 1 + X.length + 1 : Nat) : Int), 0, 0) :: (X ++ (14, ((L.length + 1 + X.length + 1 + Y.length : Nat) : Int), 0, 0) :: Y)
section
variable {w0 w : World} {b : Nat} {vv bv : Value}
theorem mleadT {l l' p r : List Is} {op a c n : Int} (k : Nat) (h : Mt w0 w b l vv bv) (hk : k = p.length) (hl : l = p ++ (op, a, c, n) :: r) (hl' : l' = p ++ (op, ((l.length : Nat) : Int), c, n) :: r) : Ret Tryz.prog 257 [.pointer (some ⟨b, 0, none⟩), .int .i64 (k : Nat)] w fun r' w' => r' = .tuple #[] ∧ Mt w0 w' b l' vv bv ∧ Mf w w' := by
 subst hk hl hl'
 exact mlead_ret h
theorem maddT {l l' : List Is} (k : Nat) (h : Mt w0 w b l vv bv) (x : Is) (hl : l.length ≤ 900000) (hk : k = l.length) (hl' : l' = l ++ [x]) : Ret Tryz.prog 171 [.pointer (some ⟨b, 0, none⟩), .agg (iC x).toArray] w fun r w' => r = .int .i64 (k : Nat) ∧ Mt w0 w' b l' vv bv ∧ Mf w w' := by
 subst hk hl'
 exact madd_ret h x hl
end
def StM (vs : List VarT) (F : Nat → Prop) (w0 : World) (b : Nat) (vv bv : Value) (s : Nat) : Prop := ∀ (t : ST), szS t < s → gdS vs.length t → ∀ {w : World} {cs : List Value} {L : List Is}, StmtV F w0 cs t → Mt w0 w b L vv bv → L.length + 2 * szS t ≤ 900000 →
  Ret Tryz.prog 203 [.pointer (some ⟨b, 0, none⟩), .agg cs.toArray] w fun r w' => r = .tuple #[] ∧ Mt w0 w' b (L ++ insS vs t L.length) vv bv ∧ Mf w w'
section
variable {vs : List VarT} {bd : List ST} {F : Nat → Prop} {w0 : World} {vv bv : Value} {b s : Nat}
theorem mstmts_ret (hF : In F w0) (hst : StM vs F w0 b vv bv s) (l : List ST) (hls : szSs l < s) (hgd : gdSs vs.length l) {w : World} {x : Value} {L : List Is} (hE : StmtsV F w0 x l) (h : Mt w0 w b L vv bv) (hl : L.length + 2 * szSs l ≤ 900000) :
  Ret Tryz.prog 170 [.pointer (some ⟨b, 0, none⟩), x] w fun r w' => r = .tuple #[] ∧ Mt w0 w' b (L ++ insSs vs l L.length) vv bv ∧ Mf w w' := by
 obtain ⟨a, cap, rfl⟩ := hE.form
 have hlen := szSs_len l
 refine ret_of 16 Tryz.func170 rfl rfl (by simp) ?_
 refine au ?_
 refine rn_ind (fun m σ w' => ∃ i : Nat, i ≤ l.length ∧ m = l.length - i ∧ σ = [(0, .pointer (some ⟨b, 0, none⟩)), (6, .slice a l.length cap), (7, .int .i64 (l.length : Nat)), (8, .int .i64 (i : Nat))] ∧ Mt w0 w' b (L ++ insSs vs (l.take i) L.length) vv bv ∧ Mf w w') l.length _ ?_ ⟨0, by omega, by omega, rfl, by simpa [insSs] using h, Mf.refl _⟩ ?_
 ·exact ⟨rfl, rfl, rfl, rfl, trivial⟩
 rintro m σ w6 ih ⟨i, hi, rfl, rfl, h6, ho6⟩
 refine au ?_
 by_cases hlt : i < l.length
 ·refine ye ?_
  have hxi : l[i]? = some l[i] := List.getElem?_eq_getElem hlt
  obtain ⟨b1, q1, c1, ci, hv1, hF1, hr1, hc1⟩ := hE.at hxi
  cases hv1
  have hszi := szSs_succ hxi
  have hszt := szSs_take l (i + 1)
  have hl1 := insSs_len vs (l.take i) L.length
  have htk := insSs_take vs hxi L.length
  refine au ?_
  refine pl_val _ rfl rfl (val_index i hT rfl rfl rfl rfl rfl hlt w6) ?_
  refine pl_val (.agg ci.toArray) rfl rfl (val_load ci hT rfl rfl (by rw [hc1.length]; rfl) (range_keep hr1 h6.kp (hF _ hF1) (by simp))) ?_
  refine pl_op rfl rfl (opTo_allocN _ rfl zero_mt ?_)
  intro w7 x2 hx2 hs7 hk7 hb7
  refine pl_op rfl rfl (opTo_storeN ci rfl rfl rfl rfl (by rw [hc1.length]; exact size_mt) hb7 (by rw [hc1.length]; simp [stmtZ]) hc1.one ?_)
  intro w8 hs8 hk8 hb8
  rw [splice_whole (by rw [hc1.length]; rfl)] at hb8
  have hk68 : Keep [] w6 w8 := hk7.trB hk8 (by omega)
  refine au ?_
  refine pl_val (.agg ci.toArray) rfl rfl (val_load ci hT rfl rfl (by rw [hc1.length]; rfl) (hb8.range (by simp))) ?_
  refine oC (hst l[i] (by omega) (gdSs_at hgd hxi) hc1 (h6.keep0 hk68) (by simp only [List.length_append]; omega)) ?_
  rintro r w9 ⟨rfl, h9, ho9⟩
  refine nM ((i + 1 : Nat) : Int) ?_
  refine au ?_
  refine rn_sub ?_ (ih (l.length - (i + 1)) [(0, .pointer (some ⟨b, 0, none⟩)), (6, .slice (some ⟨b1, q1, none⟩) l.length cap), (7, .int .i64 (l.length : Nat)), (8, .int .i64 ((i + 1 : Nat) : Int))] w9 (by omega) ⟨i + 1, by omega, rfl, rfl, ?_, (ho6.tr (Mf.of0 hk68)).tr ho9⟩)
  ·exact ⟨rfl, rfl, rfl, rfl, trivial⟩
  ·rw [htk, ← List.append_assoc]
   rw [List.length_append] at h9
   exact h9
 ·refine nay ?_
  rw [List.take_of_length_le (by omega)] at h6
  refine au ?_
  exact rn_end Tryz.func170 (.inr (.inl ⟨rfl, rfl⟩)) ⟨rfl, h6, ho6⟩
theorem mstmtsT (hF : In F w0) (hst : StM vs F w0 b vv bv s) (l : List ST) (hls : szSs l < s) (hgd : gdSs vs.length l) {w : World} {x : Value} {L L' : List Is} (i0 : Nat) (hE : StmtsV F w0 x l) (h : Mt w0 w b L vv bv) (hl : L.length + 2 * szSs l ≤ 900000) (hi : i0 = L.length) (hL' : L' = L ++ insSs vs l i0) :
  Ret Tryz.prog 170 [.pointer (some ⟨b, 0, none⟩), x] w fun r w' => r = .tuple #[] ∧ Mt w0 w' b L' vv bv ∧ Mf w w' := by
 subst hi hL'
 exact mstmts_ret hF hst l hls hgd hE h hl
theorem mloop_ret (hF : In F w0) (hst : StM vs F w0 b vv bv s) (l : List ST) (hls : szSs l < s) (hgd : gdSs vs.length l) (i0 : Nat) {w : World} {x : Value} {L : List Is} (hE : StmtsV F w0 x l) (h : Mt w0 w b L vv bv) (hl : L.length + 2 * szSs l + 2 ≤ 900000) :
  Ret Tryz.prog 227 [.pointer (some ⟨b, 0, none⟩), .int .i64 (i0 : Nat), x] w fun r w' => r = .tuple #[] ∧ Mt w0 w' b (whT i0 L (insSs vs l (L.length + 1))) vv bv ∧ Mf w w' := by
 have hXl := insSs_len vs l (L.length + 1)
 obtain ⟨X, hX⟩ : ∃ X, X = insSs vs l (L.length + 1) := ⟨_, rfl⟩
 rw [← hX] at hXl ⊢
 refine ret_of 26 Tryz.func227 rfl rfl (by simp) ?_
 refine au ?_
 refine pl_val _ rfl rfl (val_build _ rfl rfl (built_mi0 13) w) ?_
 refine oC (madd_ret h (13, 0, 0, 0) (by omega)) ?_
 rintro r w1 ⟨rfl, h1, ho1⟩
 refine oC (mstmtsT hF hst l hls hgd (L' := L ++ (13, 0, 0, 0) :: X) (L.length + 1) hE h1 (by simp; omega) (by simp) (by rw [hX]; simp)) ?_
 rintro r w2 ⟨rfl, h2, ho2⟩
 refine au ?_
 refine pl_val _ rfl rfl (val_build _ rfl rfl (built_mi1 14 ((i0 : Nat) : Int)) w2) ?_
 refine oC (madd_ret h2 (14, ((i0 : Nat) : Int), 0, 0) (by simp; omega)) ?_
 rintro r w3 ⟨rfl, h3, ho3⟩
 refine oC (mleadT (op := 13) (a := 0) (c := 0) (n := 0) (l' := whT i0 L X) (p := L) (r := X ++ [(14, ((i0 : Nat) : Int), 0, 0)]) L.length h3 rfl (by simp) (by simp [whT]; omega)) ?_
 rintro r w4 ⟨rfl, h4, ho4⟩
 refine au ?_
 exact rn_end Tryz.func227 (.inr (.inl ⟨rfl, rfl⟩)) ⟨rfl, h4, ((ho1.tr ho2).tr ho3).tr ho4⟩
theorem mchoice_ret (hF : In F w0) (hst : StM vs F w0 b vv bv s) (l lo : List ST) (hls : szSs l + szSs lo < s) (hgd : gdSs vs.length l) (hgo : gdSs vs.length lo) {w : World} {x y : Value} {L : List Is} (hE : StmtsV F w0 x l) (hO : StmtsV F w0 y lo) (h : Mt w0 w b L vv bv) (hl : L.length + 2 * szSs l + 2 * szSs lo + 2 ≤ 900000) :
  Ret Tryz.prog 228 [.pointer (some ⟨b, 0, none⟩), x, y] w fun r w' => r = .tuple #[] ∧ Mt w0 w' b (ifT L (insSs vs l (L.length + 1)) (insSs vs lo (L.length + 1 + (insSs vs l (L.length + 1)).length + 1))) vv bv ∧ Mf w w' := by
 have hXl := insSs_len vs l (L.length + 1)
 obtain ⟨X, hX⟩ : ∃ X, X = insSs vs l (L.length + 1) := ⟨_, rfl⟩
 rw [← hX] at hXl ⊢
 have hYl := insSs_len vs lo (L.length + 1 + X.length + 1)
 obtain ⟨Y, hY⟩ : ∃ Y, Y = insSs vs lo (L.length + 1 + X.length + 1) := ⟨_, rfl⟩
 rw [← hY] at hYl ⊢
 refine ret_of 34 Tryz.func228 rfl rfl (by simp) ?_
 refine au ?_
 refine pl_val _ rfl rfl (val_build _ rfl rfl (built_mi0 13) w) ?_
 refine oC (madd_ret h (13, 0, 0, 0) (by omega)) ?_
 rintro r w1 ⟨rfl, h1, ho1⟩
 refine oC (mstmtsT hF hst l (by omega) hgd (L' := L ++ (13, 0, 0, 0) :: X) (L.length + 1) hE h1 (by simp; omega) (by simp) (by rw [hX]; simp)) ?_
 rintro r w2 ⟨rfl, h2, ho2⟩
 refine au ?_
 refine pl_val _ rfl rfl (val_build _ rfl rfl (built_mi0 14) w2) ?_
 refine oC (maddT (l' := L ++ (13, 0, 0, 0) :: (X ++ [(14, 0, 0, 0)])) (L.length + 1 + X.length) h2 (14, 0, 0, 0) (by simp; omega) (by simp; omega) (by simp)) ?_
 rintro r w3 ⟨rfl, h3, ho3⟩
 refine oC (mleadT (op := 13) (a := 0) (c := 0) (n := 0) (l' := L ++ (13, ((L.length + 1 + X.length + 1 : Nat) : Int), 0, 0) :: (X ++ [(14, 0, 0, 0)])) (p := L) (r := X ++ [(14, 0, 0, 0)]) L.length h3 rfl rfl (by simp; omega)) ?_
 rintro r w4 ⟨rfl, h4, ho4⟩
 refine oC (mstmtsT hF hst lo (by omega) hgo (L' := (L ++ (13, ((L.length + 1 + X.length + 1 : Nat) : Int), 0, 0) :: X) ++ (14, 0, 0, 0) :: Y) (L.length + 1 + X.length + 1) hO h4 (by simp; omega) (by simp; omega) (by rw [hY]; simp)) ?_
 rintro r w5 ⟨rfl, h5, ho5⟩
 refine oC (mleadT (op := 14) (a := 0) (c := 0) (n := 0) (l' := ifT L X Y) (p := L ++ (13, ((L.length + 1 + X.length + 1 : Nat) : Int), 0, 0) :: X) (r := Y) (L.length + 1 + X.length) h5 (by simp; omega) rfl (by simp [ifT]; omega)) ?_
 rintro r w6 ⟨rfl, h6, ho6⟩
 refine au ?_
 exact rn_end Tryz.func228 (.inr (.inl ⟨rfl, rfl⟩)) ⟨rfl, h6, ((((ho1.tr ho2).tr ho3).tr ho4).tr ho5).tr ho6⟩
end
theorem mstmt_ret {vs : List VarT} {bd : List ST} {F : Nat → Prop} {w0 : World} {vv bv : Value} (C : CxK vs bd F w0 vv bv) {b : Nat} : ∀ (s : Nat), StM vs F w0 b vv bv s := by
 intro s
 induction s with
 | zero => intro t ht; omega
 | succ s ihs =>
  intro t ht hgd w cs L hX h hl
  obtain ⟨op, v, e, f, lb, lo⟩ := t
  obtain ⟨ce, cf, bv', ov, rfl, he, hf, hb, ho⟩ := hX.inv
  obtain ⟨e0, e1, e2, e3, rfl⟩ := list4m he.length
  obtain ⟨f0, f1, f2, f3, rfl⟩ := list4m hf.length
  obtain ⟨ba, bc, rfl⟩ := hb.form
  obtain ⟨oa, oc, rfl⟩ := ho.form
  obtain ⟨hp1, hp2, hp3, hp4, hp5, hp6, hp7⟩ := hgd
  simp only [szS] at ht hl
  have hel := eI_len vs op e
  obtain ⟨E, hEdef⟩ : ∃ E, eI vs op e = E := ⟨_, rfl⟩
  rw [hEdef] at hel
  refine ret_of 100 Tryz.func203 rfl rfl (by simp) ?_
  refine au ?_
  refine pl_op rfl rfl (opTo_boxN [.int .i64 op, .int .i64 v, e0, e1, e2, e3, f0, f1, f2, f3, .slice ba lb.length bc, .slice oa lo.length oc] rfl rfl rfl ?_)
  intro w1 x1 hx1 hs1 hk1 hX1
  obtain ⟨mv1, h1⟩ := h.keep0 hk1
  refine oC (mnext_ret h1) ?_
  rintro r w1' ⟨rfl, hww⟩
  rw [hww]
  refine auj ?_
  refine rn_seq ?_
  refine rn_with (fun σ' w' => Mt w0 w' b (L ++ E) vv bv ∧ Mf w1 w' ∧ Sub [(0, .pointer (some ⟨b, 0, none⟩)), (3, .pointer (some ⟨x1, 0, none⟩)), (4, .int .i64 (L.length : Nat))] σ') ?_ ?_
  rotate_left
  ·intro fin
   refine lB hX1 ?_
   obtain ⟨qe, hqe⟩ : ∃ q, q = needE op := ⟨_, rfl⟩
   refine oC (has_ret op w1) ?_
   rintro r w3 ⟨hr, hww⟩
   unfold hasV at hr
   rw [← hqe] at hr
   subst hr
   rw [hww]
   unfold eI at hEdef
   rw [← hqe] at hEdef
   cases qe with
   | false =>
    refine auj ?_
    refine rn_seq ?_
    refine rn_plain ?_
    refine auj ?_
    have hE0 : E = [] := by rw [← hEdef]; rfl
    exact fin _ _ ⟨by rw [hE0, List.append_nil]; exact ⟨_, h1⟩, Mf.refl _, rfl, rfl, rfl, trivial⟩
   | true =>
    refine au ?_
    refine pl_val (.agg #[e0, e1, e2, e3]) rfl rfl (val_load [e0, e1, e2, e3] hT rfl rfl rfl (hX1.range rfl)) ?_
    refine oC (mexpr_ret C (szE e + 1) e (by omega) (hp4 hqe.symm) he (⟨_, h1⟩ : Mt w0 w1 b L vv bv) (by omega)) ?_
    rintro r w4 ⟨rfl, h4, ho4⟩
    refine auj ?_
    have hE1 : E = insE vs e := by rw [← hEdef]; rfl
    exact fin _ _ ⟨by rw [hE1]; exact h4, ho4, rfl, rfl, rfl, trivial⟩
  rintro σ' w4 ⟨⟨mv, h4⟩, ho4, hsub⟩
  refine rn_sub hsub ?_
  clear hsub
  have hX4 := ho4.blk hX1 neSM neSI
  have ho04 : Mf w w4 := (Mf.of0 hk1).tr ho4
  refine lB hX4 ?_
  refine au ?_
  by_cases hop1 : op = 1
  ·subst hop1
   refine ye ?_
   refine au ?_
   refine rn_draw (fun w' => Keep [] w4 w') [8] hMix ?_
   have hS : Keep [] w4 w4.drew := (Keep.refl _ _).drew
   generalize w4.drew = w5 at *
   refine tk 0 ?_
   refine tk 1 ?_
   refine tk 2 ?_
   refine tk 3 ?_
   refine tk 4 ?_
   refine dr_val 5 (.int .i64 v) rfl (by decide +kernel) rfl rfl (fun w9 hS9 => val_load1 hT rfl rfl rfl ((hS9.blk hX4 (by simp)).cell rfl)) hS ?_
   refine dC 6 (mcell_ret C (h4.keep0 hS) v) ?_
   rintro r w6 ⟨rfl, hk6⟩
   have hS6 := hS.tr hk6
   refine ⟨fun _ => hS6, ?_⟩
   refine dr_any 7 _ rfl (by decide +kernel) rfl rfl (fun w => val_build _ rfl rfl (built_mi1 9 (cellOf vs v)) w) ?_
   refine dC 8 (madd_ret (⟨mv, h4.keep0 hS6⟩ : Mt w0 w6 b (L ++ E) vv bv) (9, cellOf vs v, 0, 0) (by simp only [List.length_append]; omega)) ?_
   rintro r w7 ⟨rfl, h7, ho7⟩
   refine ⟨fun h => absurd (by simp) h, ?_⟩
   refine dr_done (by decide +kernel) ?_
   refine au ?_
   refine rn_end Tryz.func203 (.inr (.inl ⟨rfl, rfl⟩)) ⟨rfl, ?_, (ho04.tr (Mf.of0 hS6)).tr ho7⟩
   simpa [insS, lastI, fI, needF, hEdef] using h7
  refine nay ?_
  refine au ?_
  by_cases hop2 : op = 2
  ·subst hop2
   refine ye ?_
   obtain ⟨hv0, hvl⟩ := hp3 rfl
   refine au ?_
   refine pl_val (.agg #[f0, f1, f2, f3]) rfl rfl (val_load [f0, f1, f2, f3] hT rfl rfl rfl (hX4.range rfl)) ?_
   refine oC (mexpr_ret C (szE f + 1) f (by omega) (hp5 rfl) hf (⟨mv, h4⟩ : Mt w0 w4 b (L ++ E) vv bv) (by simp only [List.length_append]; omega)) ?_
   rintro r w5 ⟨rfl, ⟨mv5, h5⟩, ho5⟩
   have hX5 := ho5.blk hX4 neSM neSI
   have hfl2 := insE_len vs f
   refine au ?_
   refine rn_draw (fun w' => Keep [] w5 w') [12] hMix ?_
   have hS : Keep [] w5 w5.drew := (Keep.refl _ _).drew
   generalize w5.drew = w6 at *
   refine tk 0 ?_
   refine tk 1 ?_
   refine tk 2 ?_
   refine tk 3 ?_
   refine tk 4 ?_
   refine dr_val 5 (.int .i64 v) rfl (by decide +kernel) rfl rfl (fun w9 hS9 => val_load1 hT rfl rfl rfl ((hS9.blk hX5 (by simp)).cell rfl)) hS ?_
   refine tk 7 ?_
   refine tk 8 ?_
   refine dr_val 9 (.int .i64 v) rfl (by decide +kernel) rfl rfl (fun w9 hS9 => val_load1 hT rfl rfl rfl ((hS9.blk hX5 (by simp)).cell rfl)) hS ?_
   refine dC 6 (mcell_ret C (h5.keep0 hS) v) ?_
   rintro r w7 ⟨rfl, hk7⟩
   have hS7 := hS.tr hk7
   refine ⟨fun _ => hS7, ?_⟩
   refine dC 10 (msize_ret C (h5.keep0 hS7) v hv0 hvl) ?_
   rintro r w7' ⟨rfl, hww⟩
   rw [hww]
   refine ⟨fun _ => hS7, ?_⟩
   refine dr_any 11 _ rfl (by decide +kernel) rfl rfl (fun w => val_build _ rfl rfl (built_mi2 10 (cellOf vs v) (sizeV vs v)) w) ?_
   refine dC 12 (madd_ret (⟨mv5, h5.keep0 hS7⟩ : Mt w0 w7 b (L ++ E ++ insE vs f) vv bv) (10, cellOf vs v, sizeV vs v, 0) (by simp only [List.length_append]; omega)) ?_
   rintro r w8 ⟨rfl, h8, ho8⟩
   refine ⟨fun h => absurd (by simp) h, ?_⟩
   refine dr_done (by decide +kernel) ?_
   refine au ?_
   refine rn_end Tryz.func203 (.inr (.inl ⟨rfl, rfl⟩)) ⟨rfl, ?_, ((ho04.tr ho5).tr (Mf.of0 hS7)).tr ho8⟩
   simpa [insS, lastI, fI, needF, hEdef] using h8
  refine nay ?_
  refine au ?_
  by_cases hop3 : op = 3
  ·subst hop3
   refine ye ?_
   refine au ?_
   refine pl_val _ rfl rfl (val_build _ rfl rfl (built_mi0 11) w4) ?_
   refine oC (madd_ret (⟨mv, h4⟩ : Mt w0 w4 b (L ++ E) vv bv) (11, 0, 0, 0) (by simp only [List.length_append]; omega)) ?_
   rintro r w5 ⟨rfl, h5, ho5⟩
   refine au ?_
   refine rn_end Tryz.func203 (.inr (.inl ⟨rfl, rfl⟩)) ⟨rfl, ?_, ho04.tr ho5⟩
   simpa [insS, lastI, fI, needF, hEdef] using h5
  refine nay ?_
  refine au ?_
  by_cases hop4 : op = 4
  ·subst hop4
   refine ye ?_
   refine au ?_
   refine rn_draw (fun w' => Keep [] w4 w') [8] hMix ?_
   have hS : Keep [] w4 w4.drew := (Keep.refl _ _).drew
   generalize w4.drew = w5 at *
   refine tk 0 ?_
   refine tk 1 ?_
   refine tk 2 ?_
   refine tk 3 ?_
   refine tk 4 ?_
   refine dr_val 5 (.int .i64 v) rfl (by decide +kernel) rfl rfl (fun w9 hS9 => val_load1 hT rfl rfl rfl ((hS9.blk hX4 (by simp)).cell rfl)) hS ?_
   refine dC 6 (mcell_ret C (h4.keep0 hS) v) ?_
   rintro r w6 ⟨rfl, hk6⟩
   have hS6 := hS.tr hk6
   refine ⟨fun _ => hS6, ?_⟩
   refine dr_any 7 _ rfl (by decide +kernel) rfl rfl (fun w => val_build _ rfl rfl (built_mi1 12 (cellOf vs v)) w) ?_
   refine dC 8 (madd_ret (⟨mv, h4.keep0 hS6⟩ : Mt w0 w6 b (L ++ E) vv bv) (12, cellOf vs v, 0, 0) (by simp only [List.length_append]; omega)) ?_
   rintro r w7 ⟨rfl, h7, ho7⟩
   refine ⟨fun h => absurd (by simp) h, ?_⟩
   refine dr_done (by decide +kernel) ?_
   refine au ?_
   refine rn_end Tryz.func203 (.inr (.inl ⟨rfl, rfl⟩)) ⟨rfl, ?_, (ho04.tr (Mf.of0 hS6)).tr ho7⟩
   simpa [insS, lastI, fI, needF, hEdef] using h7
  refine nay ?_
  refine au ?_
  by_cases hop5 : op = 5
  ·subst hop5
   refine ye ?_
   refine lB hX4 ?_
   refine oC (mloop_ret C.hF ihs lb (by omega) hp6 L.length hb (⟨mv, h4⟩ : Mt w0 w4 b (L ++ E) vv bv) (by simp only [List.length_append]; omega)) ?_
   rintro r w5 ⟨rfl, h5, ho5⟩
   refine au ?_
   refine rn_end Tryz.func203 (.inr (.inl ⟨rfl, rfl⟩)) ⟨rfl, ?_, ho04.tr ho5⟩
   have e9 : L ++ insS vs (.mk 5 v e f lb lo) L.length = whT L.length (L ++ E) (insSs vs lb ((L ++ E).length + 1)) := by
    rw [insS, if_pos rfl, hEdef, List.length_append]
    simp [whileI, whT, Nat.add_assoc, Nat.add_comm, Nat.add_left_comm]
   rw [e9]
   exact h5
  refine nay ?_
  refine au ?_
  by_cases hop6 : op = 6
  ·subst hop6
   refine ye ?_
   refine lB hX4 ?_
   refine lB hX4 ?_
   refine oC (mchoice_ret C.hF ihs lb lo (by omega) hp6 hp7 hb ho (⟨mv, h4⟩ : Mt w0 w4 b (L ++ E) vv bv) (by simp only [List.length_append]; omega)) ?_
   rintro r w5 ⟨rfl, h5, ho5⟩
   refine au ?_
   refine rn_end Tryz.func203 (.inr (.inl ⟨rfl, rfl⟩)) ⟨rfl, ?_, ho04.tr ho5⟩
   have e9 : L ++ insS vs (.mk 6 v e f lb lo) L.length = ifT (L ++ E) (insSs vs lb ((L ++ E).length + 1)) (insSs vs lo ((L ++ E).length + 1 + (insSs vs lb ((L ++ E).length + 1)).length + 1)) := by
    rw [insS, if_neg (by decide), if_pos rfl, hEdef, List.length_append]
    simp [ifI, ifT, Nat.add_assoc, Nat.add_comm, Nat.add_left_comm]
   rw [e9]
   exact h5
  refine nay ?_
  refine au ?_
  have hop7 : op = 7 := by omega
  subst hop7
  refine ye ?_
  refine au ?_
  refine pl_val _ rfl rfl (val_build _ rfl rfl (built_mi0 15) w4) ?_
  refine oC (madd_ret (⟨mv, h4⟩ : Mt w0 w4 b (L ++ E) vv bv) (15, 0, 0, 0) (by simp only [List.length_append]; omega)) ?_
  rintro r w5 ⟨rfl, h5, ho5⟩
  refine au ?_
  refine rn_end Tryz.func203 (.inr (.inl ⟨rfl, rfl⟩)) ⟨rfl, ?_, ho04.tr ho5⟩
  simpa [insS, lastI, fI, needF, hEdef] using h5
theorem built_mk (av ab : Option Addr) (n1 n2 c1 c2 : Nat) : Tryz.prog.built tMk [(1, .agg #[.slice av n1 c1, .slice ab n2 c2])] = some [Value.slice none 0 0, .slice av n1 c1, .slice ab n2 c2].toArray := by kernel_rfl
theorem mkC : MkC := ⟨by
 intro F w x vs body hp hF hvl hsz
 have hp' := hp
 obtain ⟨vv, bv, rfl, hv, hb⟩ := hp'
 obtain ⟨av, capv, rfl⟩ := hv.form
 obtain ⟨ab, capb, rfl⟩ := hb.form
 refine ret_of 28 Tryz.func132 rfl rfl (by simp) ?_
 refine au ?_
 refine pl_op rfl rfl (opTo_boxN [.slice av vs.length capv, .slice ab body.length capb] rfl rfl rfl ?_)
 intro w1 x1 hx1 hs1 hk1 hX1
 refine au ?_
 refine pl_val (.agg #[.slice av vs.length capv, .slice ab body.length capb]) rfl rfl (val_load [.slice av vs.length capv, .slice ab body.length capb] hT rfl rfl rfl (hX1.range (by rfl))) ?_
 refine oC (check_ret (hp.keep hk1 hF.stays) (hF.keep hk1) hsz) ?_
 rintro r w2 ⟨rfl, hk2⟩
 refine au ?_
 by_cases hc : progFault vs body = 0
 ·refine nay ?_
  obtain ⟨hS1, hS2, hS3, _⟩ := prog_fit hc
  have hX2 := hk2.blk hX1 (by simp)
  refine au ?_
  refine pl_val (.agg #[.slice av vs.length capv, .slice ab body.length capb]) rfl rfl (val_load [.slice av vs.length capv, .slice ab body.length capb] hT rfl rfl rfl (hX2.range (by rfl))) ?_
  refine pl_val _ rfl rfl (val_build _ rfl rfl (built_mk av ab vs.length body.length capv capb) w2) ?_
  refine pl_op rfl rfl (opTo_boxN [.slice none 0 0, .slice av vs.length capv, .slice ab body.length capb] rfl rfl rfl ?_)
  intro w3 b hb3 hs3 hk3 hbk
  have hk03 := (hk1.tr hk2).tr hk3
  have C : CxK vs body F w (.slice av vs.length capv) (.slice ab body.length capb) := ⟨hp, hF, hS1⟩
  have h3 : Mt w w3 b [] (.slice av vs.length capv) (.slice ab body.length capb) := ⟨_, hk03, by have := (hk1.tr hk2).size; omega, hbk, RowI.nil _ _ _⟩
  refine lB (hk3.blk hX2 (by simp)) ?_
  refine oC (mstmtsT (L' := insSs vs body 0) C.hF (mstmt_ret C (szSs body + 1)) body (by omega) hS3 0 hb h3 (by simp; omega) rfl rfl) ?_
  rintro r w4 ⟨rfl, h4, ho4⟩
  have hl4 := insSs_len vs body 0
  refine au ?_
  refine pl_val _ rfl rfl (val_build _ rfl rfl (built_mi0 16) w4) ?_
  refine oC (madd_ret h4 haltI (by omega)) ?_
  rintro r w5 ⟨rfl, ⟨mv, h5⟩, ho5⟩
  refine lB h5.bk ?_
  refine au ?_
  refine rn_ret Tryz.func132 (.inr (.inr (.inr (.inr ⟨_, _, _, _, rfl, rfl, rfl, rfl⟩)))) ⟨⟨mv, by rw [hc], ?_⟩, h5.kp⟩
  unfold makeOf
  rw [if_pos hc]
  exact h5.row.ins
 ·refine ye ?_
  refine au ?_
  refine rn_ret Tryz.func132 (.inr (.inr (.inr (.inr ⟨_, _, _, _, rfl, rfl, rfl, rfl⟩)))) ⟨⟨_, rfl, ?_⟩, hk1.tr hk2⟩
  unfold makeOf
  rw [if_neg hc]
  exact InsV.nil⟩
end
section
open Go.Proofs
theorem built_pn0 : Tryz.prog.built tPr [] = some pz0.toArray := by kernel_rfl
theorem built_lf (d q : Nat) (a b : Option Addr) (n c m e : Nat) (k : Int) : Tryz.prog.built tLf [(1, .pointer (some ⟨d, 0, none⟩)), (2, .slice a n c), (3, .slice b m e), (4, .pointer (some ⟨q, 0, none⟩)), (5, .int .i64 k)] = some [Value.pointer none, .pointer (some ⟨d, 0, none⟩), .slice a n c, .slice b m e, .pointer (some ⟨q, 0, none⟩), .int .i64 k].toArray := by kernel_rfl
theorem InvZ.cells {vs : List VarT} {body : List ST} {inp : List Int} {z : Lz} {i : Nat} (h : InvZ vs body inp z i) (hpf : progFault vs body = 0) (hsz : szSs body ≤ 1000) : (sumV vs).toNat = z.lf.m.cells.length := by
 obtain ⟨_, g, hg, hI⟩ := h
 obtain ⟨c, hc, h48, hP⟩ := prog_prg hpf hsz
 have hcc : c = (sumV vs).toNat := by omega
 subst hcc
 have h1 : (z.lf.m.cells.length : Int) = (sumV vs).toNat := (InvL.fit hI hP).1.cells
 omega
theorem InvZ.stat {vs : List VarT} {body : List ST} {inp : List Int} {z : Lz} {i : Nat} (h : InvZ vs body inp z i) (hpf : progFault vs body = 0) (hsz : szSs body ≤ 1000) : z.lf.m.state ≤ 14 := by
 obtain ⟨_, g, hg, hI⟩ := h
 obtain ⟨c, hc, h48, hP⟩ := prog_prg hpf hsz
 have hcc : c = (sumV vs).toNat := by omega
 subst hcc
 exact (InvL.fit hI hP).2.2.2.1
section
variable {vs : List VarT} {body : List ST} {inp : List Int} {B : Nat} {w w' : World} {x y d q i : Nat} {fp fm fm' rd : List Nat} {cv iv : Value} {z z' : Lz}
theorem lifeNow_ret (h : LV vs body inp B w y fp z) (hz : InvZ vs body inp z i) (hi : i ≤ 300000) (hpf : progFault vs body = 0) (hsz : szSs body ≤ 1000) :
  Ret Tryz.prog 73 [.pointer (some ⟨y, 0, none⟩)] w fun r w' => (∃ ov cv, r = .agg (resC (codeB z.lf.m z.lf.p) ov cv).toArray ∧ LsC w' ov z.lf.p.1 ∧ LsV w' cv z.lf.m.cells ∧ Nw w ov ∧ Nw w cv) ∧ Keep [] w w' := by
 obtain ⟨b1, b2, b3⟩ := hz.bnd hpf hsz
 have b4 := hz.stat hpf hsz
 have b5 := hz.cells hpf hsz
 refine ret_of 12 Tryz.func73 rfl rfl (by simp) ?_
 refine au ?_
 refine pl_op rfl rfl (opTo_allocN _ rfl zero_re ?_)
 intro w1 x2 hx2 hs1 hk1 hb1
 have h1 := h.keep hk1 (fun k hk => by cases hk)
 obtain ⟨x, d, q, cv, iv, rd, fm, rfl, l1, l2, l3⟩ := h1
 refine au ?_
 refine rn_draw (fun w' => Keep [] w1 w') [9] hMix ?_
 have hS : Keep [] w1 w1.drew := (Keep.refl _ _).drew
 generalize w1.drew = w2 at *
 refine tk 0 ?_
 refine tk 1 ?_
 refine tk 2 ?_
 refine dr_val 3 (.pointer (some ⟨x, 0, none⟩)) rfl (by decide +kernel) rfl rfl (fun w9 hS9 => val_load1 hT rfl rfl rfl ((l1.keep0 hS9).blk.cell rfl)) hS ?_
 refine tk 4 ?_
 refine tk 5 ?_
 refine tk 6 ?_
 refine dr_val 7 (.int .i64 ((sumV vs).toNat : Nat)) rfl (by decide +kernel) rfl rfl (fun w9 hS9 => val_load1 hT rfl rfl rfl ((l1.keep0 hS9).blk.cell rfl)) hS ?_
 refine dC 8 ((l2.keep0 hS).result b3 (by omega) (by omega) b2 b5) ?_
 rintro r w3 ⟨⟨ov, cv, rfl, ho, hc, no, nc⟩, hk3⟩
 have hS3 := hS.tr hk3
 refine ⟨fun _ => hS3, ?_⟩
 have hb3 := hS3.blk hb1 (by simp)
 obtain ⟨oa, ok, rfl⟩ := ho.1.form
 obtain ⟨ca, ck, rfl⟩ := hc.form
 refine dr_op 9 rfl (by decide +kernel) rfl rfl (opTo_storeN (resC (codeB z.lf.m z.lf.p) (.slice oa z.lf.p.1.length ok) (.slice ca z.lf.m.cells.length ck)) rfl rfl rfl rfl size_re hb3 (by simp [resC]) (resC_one _ _ _ _ _ _ _) ?_)
 intro w4 hs4 hk4 hb4
 rw [splice_whole (by rfl)] at hb4
 refine ⟨fun h => absurd (by simp) h, ?_⟩
 refine dr_done (by decide +kernel) ?_
 have s2 := hS.size
 have hlow : w.heap.size ≤ w2.heap.size := by omega
 refine au ?_
 refine rn_ret Tryz.func73 (.inr (.inr (.inl ⟨_, _, _, rfl, rfl, blk_loadVar hT hb4 rfl⟩))) ⟨⟨_, _, rfl, ⟨ho.1.keepN hk4 (no.notOld (by omega)), ho.2⟩, hc.keepN hk4 (nc.notOld (by omega)), no.low hlow, nc.low hlow⟩, (hk1.tr hS3).trB hk4 (by omega)⟩
end
theorem lifeNew_ret {F : Nat → Prop} {w : World} {x iv : Value} {vs : List VarT} {body : List ST} {inp : List Int} (hp : ProgV F w x vs body) (hF : In F w) (hi : LsC w iv inp) (hvl : vs.length ≤ 100000) (hsz : szSs body ≤ 1000) (hil : inp.length ≤ 100000) :
  Ret Tryz.prog 98 [x, iv] w fun r w' => (∃ pv, r = .tuple #[pv, .int .i64 (newF vs body inp)] ∧ (newF vs body inp = 0 → ∃ y fp, pv = .pointer (some ⟨y, 0, none⟩) ∧ LV vs body inp w.heap.size w' y fp (lz0 (sumV vs).toNat))) ∧ Keep [] w w' := by
 have hp0 := hp
 obtain ⟨vv, bv, rfl, hv, hb⟩ := hp
 obtain ⟨av, capv, rfl⟩ := hv.form
 obtain ⟨ab, capb, rfl⟩ := hb.form
 have hi0 := hi.1
 obtain ⟨ia, icap, rfl, hir⟩ := hi0
 refine ret_of 33 Tryz.func98 rfl rfl (by simp) ?_
 refine au ?_
 refine pl_op rfl rfl (opTo_boxN [.slice av vs.length capv, .slice ab body.length capb] rfl rfl rfl ?_)
 intro w1 x2 hx2 hs1 hk1 hX1
 refine au ?_
 refine pl_val (.agg #[.slice av vs.length capv, .slice ab body.length capb]) rfl rfl (val_load [.slice av vs.length capv, .slice ab body.length capb] hT rfl rfl rfl (hX1.range (by rfl))) ?_
 refine oC (mkC.make (hp0.keep hk1 hF.stays) (hF.keep hk1) (by omega) (by omega)) ?_
 rintro r w2 ⟨⟨cv, rfl, hI⟩, hk2⟩
 obtain ⟨ca, ccap, hcv⟩ := hI.form
 subst hcv
 have hk02 := hk1.tr hk2
 have hX2 := hk2.blk hX1 (by simp)
 refine au ?_
 by_cases hpf : ¬ progFault vs body = 0
 ·have hn : newF vs body inp = progFault vs body := by
   unfold newF
   rw [if_neg hpf]
  refine ye ?_
  refine au ?_
  rw [hn]
  exact rn_ret Tryz.func98 (.inr (.inr (.inr (.inr ⟨_, _, _, _, rfl, rfl, rfl, rfl⟩)))) ⟨⟨_, rfl, fun h => absurd h hpf⟩, hk02⟩
 replace hpf : progFault vs body = 0 := by omega
 rw [hpf]
 refine nay ?_
 refine au ?_
 by_cases hl : ¬ inp.length ≤ 40
 ·have hn : newF vs body inp = 1 := by
   unfold newF
   rw [if_pos hpf, if_neg hl]
  refine ye ?_
  refine au ?_
  rw [hn]
  exact rn_ret Tryz.func98 (.inr (.inr (.inr (.inr ⟨_, _, _, _, rfl, rfl, rfl, rfl⟩)))) ⟨⟨_, rfl, fun h => absurd h (by decide)⟩, hk02⟩
 replace hl : inp.length ≤ 40 := by omega
 have hn : newF vs body inp = 0 := by
  unfold newF
  rw [if_pos hpf, if_pos hl]
 have hmk : makeOf vs body = insP vs body := by
  unfold makeOf
  rw [if_pos hpf]
 obtain ⟨hszd, _, _, hs0, hs48⟩ := prog_fit hpf
 have hce : cellOf vs (vs.length : Nat) = (((sumV vs).toNat : Nat) : Int) := by
  unfold cellOf
  rw [Int.toNat_natCast, List.take_length]
  omega
 refine nay ?_
 refine au ?_
 rw [hmk] at hI
 rw [hmk]
 obtain ⟨rb, hrb, hI2⟩ := hI.own
 refine rn_draw (fun w' => Keep [] w2 w') [] hMix ?_
 have hS : Keep [] w2 w2.drew := (Keep.refl _ _).drew
 generalize w2.drew = w3 at *
 refine tk 1 ?_
 refine tk 2 ?_
 refine dr_any 4 _ rfl (by decide +kernel) rfl rfl (fun w => val_build _ rfl rfl built_pn0 w) ?_
 refine dr_val 6 (.agg #[.slice av vs.length capv, .slice ab body.length capb]) rfl (by decide +kernel) rfl rfl (fun w9 hS9 => val_load [.slice av vs.length capv, .slice ab body.length capb] hT rfl rfl rfl ((hS9.blk hX2 (by simp)).range (by rfl))) hS ?_
 have clone : ∀ {w4 : World}, Keep [] w2 w4 → Ret Tryz.prog 134 [.slice ia inp.length icap] w4 fun r w' => RowL w' w2.heap.size r inp ∧ Keep [] w4 w' := fun {w4} hk => by
  refine (cloneL_ret (hi.1.keep0 (hk02.tr hk)) (by omega)).mono ?_
  rintro r w' ⟨hr, hk'⟩
  exact ⟨hr.low hk.size, hk'⟩
 have cells : ∀ {w4 : World}, Keep [] w2 w4 → Ret Tryz.prog 135 [.agg #[.slice av vs.length capv, .slice ab body.length capb]] w4 fun r w' => r = .int .i64 (((sumV vs).toNat : Nat) : Int) ∧ Keep [] w4 w' := fun {w4} hk => by
  rw [← hce]
  exact cells_ret (hp0.keep (hk02.tr hk) hF.stays) (hF.keep (hk02.tr hk)) hszd
 refine dr_with 3 255 (fun σ' w' => ∃ d q B0 ia' ik', DiskV B0 w' d (List.replicate 272 0) [] (.slice none 0 0) ∧ w2.heap.size ≤ B0 ∧ Blk w' q pz0 tPr ∧ w2.heap.size ≤ q ∧ RowL w' w2.heap.size (.slice ia' inp.length ik') inp ∧ Keep [] w2 w' ∧
  Sub [(20, .pointer (some ⟨d, 0, none⟩)), (21, .slice ca (insP vs body).length ccap), (23, .slice ia' inp.length ik'), (25, .pointer (some ⟨q, 0, none⟩)), (27, .int .i64 (((sumV vs).toNat : Nat) : Int))] σ') ?_ ?_
 ·rintro σ' w4 ⟨d, q, B0, ia', ik', hd, hB0, hq, hqB, hrow, hS4, hsub⟩
  refine dr_sub hsub ?_
  refine dr_any 8 _ rfl (by decide +kernel) rfl rfl (fun w => val_build _ rfl rfl (built_lf d q ca ia' (insP vs body).length ccap inp.length ik' (((sumV vs).toNat : Nat) : Int)) w) ?_
  refine dr_op 9 rfl (by decide +kernel) rfl rfl (opTo_boxN (lfC (.pointer none) d q (.slice ca (insP vs body).length ccap) (.slice ia' inp.length ik') (sumV vs).toNat) rfl rfl rfl ?_)
  intro w5 y hy hs5 hk5 hY5
  have hS5 := hS4.tr hk5
  refine ⟨fun _ => hS5, ?_⟩
  refine tk 10 ?_
  refine dr_done (by decide +kernel) ?_
  refine au ?_
  have hlow2 := hk02.size
  have h12 := hk1.size
  have s45 := hS4.size
  have hdl := hd.blk.lt
  have hdb := hd.base
  have hql := hq.lt
  have hnd : d ∉ rb ++ obs (.slice ia' inp.length ik') := fun hm => by
   rcases List.mem_append.1 hm with hm | hm
   ·have := (hrb d hm).2
    omega
   ·exact hrow.ne hd.blk (by decide) d hm (by simp)
  have hnq : q ∉ rb ++ obs (.slice ia' inp.length ik') := fun hm => by
   rcases List.mem_append.1 hm with hm | hm
   ·have := (hrb q hm).2
    omega
   ·exact hrow.ne hq (by decide) q hm (by simp)
  have hny : y ∉ rb ++ obs (.slice ia' inp.length ik') := fun hm => by
   rcases List.mem_append.1 hm with hm | hm
   ·have := (hrb y hm).2
    omega
   ·have := (hrow.lt y hm).2
    omega
  have hro : ∀ k ∈ rb ++ obs (.slice ia' inp.length ik'), w.heap.size ≤ k ∧ k < w5.heap.size := fun k hk => by
   rcases List.mem_append.1 hk with hm | hm
   ·have := hrb k hm
    exact ⟨by omega, by omega⟩
   ·have := hrow.lt k hm
    exact ⟨by omega, by omega⟩
  have hlk : Lfk (rb ++ obs (.slice ia' inp.length ik')) w.heap.size w5 y (.pointer none) d q (.slice ca (insP vs body).length ccap) (.slice ia' inp.length ik') (insP vs body) inp (sumV vs).toNat := by
   refine ⟨hY5, ?_, ?_, by omega, hro, hny, hl⟩
   ·obtain ⟨a, cap, e, h2⟩ := hI2.keep hS5 (fun c hR => ⟨(hrb c hR).2, by simp⟩)
    refine ⟨a, cap, e, fun h0 => ?_⟩
    obtain ⟨b, o, e1, hR, hr⟩ := h2 h0
    exact ⟨b, o, e1, List.mem_append.2 (.inl hR), hr⟩
   ·obtain ⟨a, cap, e, h2⟩ := (hrow.keep hk5 (fun k _ => by simp)).lies
    refine ⟨a, cap, e, fun h0 => ?_⟩
    obtain ⟨b, o, e1, hb, hr⟩ := h2 h0
    refine ⟨b, o, e1, List.mem_append.2 (.inr ?_), hr⟩
    injection e with e2 e3 e4
    rw [e2, e1]
    simp [obs, Value.ownBlock]
  have hdk : Dk (· ∈ rb ++ obs (.slice ia' inp.length ik')) w.heap.size w5 d q (.slice none 0 0) ([], false) (List.replicate 112 0) 0 :=
   Dk.first (hd.keep hk5 (fun _ _ => by simp)) (by omega) (hk5.blk hq (by simp)) ⟨by omega, hnq⟩ hnd fun k hk => (hro k hk).2
  refine pl_op rfl rfl (opTo_call (fst := []) (cap := []) rfl rfl rfl rfl (by decide +kernel) ((wake_ret (mm := mind0 (sumV vs).toNat) (W := List.replicate 112 0) (k := mind0 (sumV vs).toNat) hlk rfl hdk (fun hm => by
   simp [obs, Value.ownBlock] at hm
   omega) (enc0 _ (by omega)) (by simp [mind0]; omega) (by simp) (by omega)).mono ?_))
  rintro r w6 ⟨rfl, fp', h6, hk6, _⟩
  refine au ?_
  rw [hn]
  exact rn_ret Tryz.func98 (.inr (.inr (.inr (.inr ⟨_, _, _, _, rfl, rfl, rfl, rfl⟩)))) ⟨⟨_, rfl, fun _ => ⟨y, fp', rfl, h6⟩⟩, (hk02.tr hS5).trB hk6 (by omega)⟩
 intro fin
 have hs23 := hS.size
 refine dr_op2 0 5 rfl rfl (by decide +kernel) rfl rfl rfl rfl ?_ ?_
 ·refine opTo_call (fst := []) (cap := []) rfl rfl rfl rfl (by decide +kernel) ((new_ret w3).mono ?_)
  rintro r w4 ⟨rfl, hd4, hk4⟩
  have hS4 := hS.tr hk4
  have z4 := hS4.size
  refine ⟨fun _ => hS4, ?_⟩
  refine dr_op2 3 5 rfl rfl (by decide +kernel) rfl rfl rfl rfl ?_ ?_
  ·refine opTo_call (fst := []) (cap := []) rfl rfl rfl rfl (by decide +kernel) ((clone hS4).mono ?_)
   rintro r w5 ⟨hr5, hk5⟩
   obtain ⟨ia', ik', rfl⟩ := hr5.form
   have hS5 := hS4.tr hk5
   have z5 := hS5.size
   refine ⟨fun _ => hS5, ?_⟩
   have hd5 := hd4.keep hk5 (fun _ _ => by simp)
   refine dr_op2 5 7 rfl rfl (by decide +kernel) rfl rfl rfl rfl ?_ ?_
   ·refine opTo_boxN pz0 rfl rfl rfl ?_
    intro w6 q hq hs6 hk6 hb6
    have hS6 := hS5.tr hk6
    refine ⟨fun _ => hS6, ?_⟩
    refine dC 7 (cells hS6) ?_
    rintro r w7 ⟨rfl, hk7⟩
    refine ⟨fun _ => hS6.tr hk7, ?_⟩
    exact fin _ _ ⟨_, q, _, ia', ik', (hd5.keep hk6 (fun _ _ => by simp)).keep hk7 (fun _ _ => by simp), by omega, hk7.blk hb6 (by simp), by omega, (hr5.keep hk6 (fun k _ => by simp)).keep hk7 (fun k _ => by simp), hS6.tr hk7, rfl, rfl, rfl, rfl, rfl, trivial⟩
   ·refine opTo_call (fst := []) (cap := []) rfl rfl rfl rfl (by decide +kernel) ((cells hS5).mono ?_)
    rintro r w6 ⟨rfl, hk6⟩
    have hS6 := hS5.tr hk6
    have z6 := hS6.size
    refine ⟨fun _ => hS6, ?_⟩
    refine dr_op 5 rfl (by decide +kernel) rfl rfl (opTo_boxN pz0 rfl rfl rfl ?_)
    intro w7 q hq hs7 hk7 hb7
    refine ⟨fun _ => hS6.tr hk7, ?_⟩
    exact fin _ _ ⟨_, q, _, ia', ik', (hd5.keep hk6 (fun _ _ => by simp)).keep hk7 (fun _ _ => by simp), by omega, hb7, by omega, (hr5.keep hk6 (fun k _ => by simp)).keep hk7 (fun k _ => by simp), hS6.tr hk7, rfl, rfl, rfl, rfl, rfl, trivial⟩
  ·refine opTo_boxN pz0 rfl rfl rfl ?_
   intro w5 q hq hs5 hk5 hb5
   have hS5 := hS4.tr hk5
   refine ⟨fun _ => hS5, ?_⟩
   refine dC 3 (clone hS5) ?_
   rintro r w6 ⟨hr6, hk6⟩
   obtain ⟨ia', ik', rfl⟩ := hr6.form
   have hS6 := hS5.tr hk6
   refine ⟨fun _ => hS6, ?_⟩
   refine dC 7 (cells hS6) ?_
   rintro r w7 ⟨rfl, hk7⟩
   refine ⟨fun _ => hS6.tr hk7, ?_⟩
   exact fin _ _ ⟨_, q, _, ia', ik', ((hd4.keep hk5 (fun _ _ => by simp)).keep hk6 (fun _ _ => by simp)).keep hk7 (fun _ _ => by simp), by omega, hk7.blk (hk6.blk hb5 (by simp)) (by simp), by omega, hr6.keep hk7 (fun k _ => by simp), hS6.tr hk7, rfl, rfl, rfl, rfl, rfl, trivial⟩
 ·refine opTo_boxN pz0 rfl rfl rfl ?_
  intro w4 q hq hs4 hk4 hb4
  have hS4 := hS.tr hk4
  have z4 := hS4.size
  refine ⟨fun _ => hS4, ?_⟩
  refine dC 0 (new_ret w4) ?_
  rintro r w5 ⟨rfl, hd5, hk5⟩
  have hS5 := hS4.tr hk5
  refine ⟨fun _ => hS5, ?_⟩
  refine dC 3 (clone hS5) ?_
  rintro r w6 ⟨hr6, hk6⟩
  obtain ⟨ia', ik', rfl⟩ := hr6.form
  have hS6 := hS5.tr hk6
  refine ⟨fun _ => hS6, ?_⟩
  refine dC 7 (cells hS6) ?_
  rintro r w7 ⟨rfl, hk7⟩
  refine ⟨fun _ => hS6.tr hk7, ?_⟩
  exact fin _ _ ⟨_, q, _, ia', ik', (hd5.keep hk6 (fun _ _ => by simp)).keep hk7 (fun _ _ => by simp), by omega, hk7.blk (hk6.blk (hk5.blk hb4 (by simp)) (by simp)) (by simp), by omega, hr6.keep hk7 (fun k _ => by simp), hS6.tr hk7, rfl, rfl, rfl, rfl, rfl, trivial⟩
end
section
open Go.Proofs
abbrev TD : Nat := 45
abbrev TS : Nat := 9
def LifV (B : Nat) (w : World) (lv : Value) (fl : List Nat) (cnt : Nat) : Option (List VarT × List ST × List Int × Lf) → Prop
 | none => lv = .pointer none ∧ fl = []
 | some q => ∃ y BL z, lv = .pointer (some ⟨y, 0, none⟩) ∧ B ≤ BL ∧ LV q.1 q.2.1 q.2.2.1 BL w y fl z ∧ z.lf = q.2.2.2 ∧ 0 ≤ z.gen ∧ z.gen ≤ (cnt : Int)
structure Dv (B : Nat) (w : World) (d : Nat) (tv iv lv : Value) (fl : List Nat) (s : Ds) : Prop where
 bk : Blk w d [tv, iv, lv] TD
 lo : B ≤ d
 tx : Own w B TS 1 tv s.txt.length (strs s.txt)
 ip : RowL w B iv s.inp
 lf : LifV B w lv fl s.cnt s.lif
 dj : ∀ k ∈ fl, k ≠ d ∧ k ∉ obs tv ∧ k ∉ obs iv
def fpK (d : Nat) (tv iv : Value) (fl : List Nat) : List Nat := d :: (obs tv ++ obs iv ++ fl)
def DkV (B : Nat) (w : World) (d : Nat) (fd : List Nat) (s : Ds) : Prop := ∃ tv iv lv fl, Dv B w d tv iv lv fl s ∧ fd = fpK d tv iv fl
theorem neDS : TD ≠ TS := by decide
theorem neDL : TD ≠ tLg := by decide
theorem neSL : TS ≠ tLg := by decide
section
variable {B : Nat} {w w1 w2 : World} {d : Nat} {tv iv lv : Value} {fl fp : List Nat} {s : Ds}
theorem mem_fpK {k : Nat} : k ∈ fpK d tv iv fl ↔ k = d ∨ k ∈ obs tv ∨ k ∈ obs iv ∨ k ∈ fl := by simp [fpK]
theorem LifV.lt {cnt : Nat} {o : Option (List VarT × List ST × List Int × Lf)} (h : LifV B w lv fl cnt o) : ∀ k ∈ fl, B ≤ k ∧ k < w.heap.size := by
 cases o with
 | none => intro k hk; rw [h.2] at hk; cases hk
 | some q =>
  obtain ⟨y, BL, z, _, h2, h3, _⟩ := h
  exact fun k hk => ⟨Nat.le_trans h2 (LV.lt h3 k hk).1, (LV.lt h3 k hk).2⟩
theorem LifV.keep {cnt : Nat} {o : Option (List VarT × List ST × List Int × Lf)} (h : LifV B w lv fl cnt o) (hk : Keep fp w w1) (hn : ∀ k ∈ fl, k ∉ fp) : LifV B w1 lv fl cnt o := by
 cases o with
 | none => exact h
 | some q =>
  obtain ⟨y, BL, z, h1, h2, h3, h4⟩ := h
  exact ⟨y, BL, z, h1, h2, LV.keep h3 hk fun k hk' hm => hn k hm hk', h4⟩
theorem own_blkE {e size n : Nat} {v : Value} {xs : List Value} (h : Own w B e size v n xs) : ∀ k ∈ obs v, ∃ L, Blk w k L e := fun k hk => by
 rcases h.2 with ⟨rfl, _⟩ | ⟨g, cap, cur, rfl, _, hg, _⟩
 ·simp [obs, Value.ownBlock] at hk
 ·simp [obs, Value.ownBlock] at hk
  subst hk
  exact ⟨cur, hg⟩
theorem Dv.lt (h : Dv B w d tv iv lv fl s) : ∀ k ∈ fpK d tv iv fl, B ≤ k ∧ k < w.heap.size := fun k hk => by
 rcases mem_fpK.1 hk with rfl | hk | hk | hk
 ·exact ⟨h.lo, h.bk.lt⟩
 ·exact h.tx.lt k (mem_obs.1 hk)
 ·exact h.ip.lt k hk
 ·exact h.lf.lt k hk
theorem Dv.keep (h : Dv B w d tv iv lv fl s) (hk : Keep fp w w1) (hn : ∀ k ∈ fpK d tv iv fl, k ∉ fp) : Dv B w1 d tv iv lv fl s :=
 ⟨hk.blk h.bk (hn d (mem_fpK.2 (.inl rfl))), h.lo, h.tx.keep hk fun k hk' => hn k (mem_fpK.2 (.inr (.inl (mem_obs.2 hk')))), h.ip.keep hk fun k hk' => hn k (mem_fpK.2 (.inr (.inr (.inl hk')))), h.lf.keep hk fun k hk' => hn k (mem_fpK.2 (.inr (.inr (.inr hk')))), h.dj⟩
theorem DkV.lt {fd : List Nat} (h : DkV B w d fd s) : ∀ k ∈ fd, B ≤ k ∧ k < w.heap.size := by
 obtain ⟨tv, iv, lv, fl, h, rfl⟩ := h
 exact h.lt
theorem DkV.keep {fd : List Nat} (h : DkV B w d fd s) (hk : Keep fp w w1) (hn : ∀ k ∈ fd, k ∉ fp) : DkV B w1 d fd s := by
 obtain ⟨tv, iv, lv, fl, h, rfl⟩ := h
 exact ⟨tv, iv, lv, fl, h.keep hk hn, rfl⟩
theorem DkV.keep0 {fd : List Nat} (h : DkV B w d fd s) (hk : Keep [] w w1) : DkV B w1 d fd s := h.keep hk fun _ _ => by simp
theorem Dv.putT (h : Dv B w d tv iv lv fl s) {tv' : Value} {t : List (List UInt8)} (hk1 : Keep (obs tv) w w1) (ho : Own w1 B TS 1 tv' t.length (strs t)) (hob : ∀ k ∈ obs tv', k ∈ obs tv ∨ w.heap.size ≤ k) (hk : Keep [d] w1 w2) (hb : Blk w2 d [tv', iv, lv] TD) : Dv B w2 d tv' iv lv fl { s with txt := t } ∧ Tn (fpK d tv iv fl) (fpK d tv' iv fl) w w2 := by
 have hd1 : Blk w1 d [tv, iv, lv] TD := hk1.blk h.bk fun hm => by
  obtain ⟨L, hL⟩ := own_blkE h.tx d hm
  exact Blk.ne h.bk hL neDS rfl
 have hki : ∀ k ∈ obs iv, k ∉ obs tv := fun k hi ht => by
  obtain ⟨L, hL⟩ := own_blkE h.tx k ht
  obtain ⟨L', hL'⟩ := own_blkE h.ip k hi
  exact Blk.ne hL hL' neSL rfl
 refine ⟨⟨hb, h.lo, ho.keep hk fun k hk' hm => ?_, (h.ip.keep hk1 hki).keep hk fun k hk' hm => ?_, (h.lf.keep hk1 fun k hk' => (h.dj k hk').2.1).keep hk fun k hk' hm => (h.dj k hk').1 (List.mem_singleton.1 hm), fun k hk' => ⟨(h.dj k hk').1, fun hm => ?_, (h.dj k hk').2.2⟩⟩, ?_, fun k hk' => ?_⟩
 ·obtain ⟨L, hL⟩ := own_blkE ho k (mem_obs.2 hk')
  rw [List.mem_singleton.1 hm] at hL
  exact Blk.ne hd1 hL neDS rfl
 ·obtain ⟨L, hL⟩ := own_blkE h.ip k hk'
  rw [List.mem_singleton.1 hm] at hL
  exact Blk.ne h.bk hL neDL rfl
 ·rcases hob k hm with h1 | h1
  ·exact (h.dj k hk').2.1 h1
  ·have := (h.lf.lt k hk').2
   omega
 ·exact (hk1.mono fun k hk' => .inl (mem_fpK.2 (.inr (.inl hk')))).tr (hk.mono fun k hk' => .inl (mem_fpK.2 (.inl (List.mem_singleton.1 hk'))))
 ·rcases mem_fpK.1 hk' with h1 | h1 | h1 | h1
  ·exact .inl (mem_fpK.2 (.inl h1))
  ·exact (hob k h1).imp (fun h => mem_fpK.2 (.inr (.inl h))) id
  ·exact .inl (mem_fpK.2 (.inr (.inr (.inl h1))))
  ·exact .inl (mem_fpK.2 (.inr (.inr (.inr h1))))
theorem Dv.putI (h : Dv B w d tv iv lv fl s) {iv' : Value} {n : List Int} (ho : RowL w B iv' n) (hob : ∀ k ∈ obs iv', k ∉ fl) (hk : Keep [d] w w2) (hb : Blk w2 d [tv, iv', lv] TD) : Dv B w2 d tv iv' lv fl { s with inp := n } ∧ Keep (fpK d tv iv fl) w w2 := by
 refine ⟨⟨hb, h.lo, h.tx.keep hk fun k hk' hm => ?_, ho.keep hk fun k hk' hm => ?_, h.lf.keep hk fun k hk' hm => (h.dj k hk').1 (List.mem_singleton.1 hm), fun k hk' => ⟨(h.dj k hk').1, (h.dj k hk').2.1, fun hm => hob k hm hk'⟩⟩, hk.mono fun k hk' => .inl (mem_fpK.2 (.inl (List.mem_singleton.1 hk')))⟩
 ·obtain ⟨L, hL⟩ := own_blkE h.tx k (mem_obs.2 hk')
  rw [List.mem_singleton.1 hm] at hL
  exact Blk.ne h.bk hL neDS rfl
 ·obtain ⟨L, hL⟩ := own_blkE ho k hk'
  rw [List.mem_singleton.1 hm] at hL
  exact Blk.ne h.bk hL neDL rfl
theorem Dv.putL (h : Dv B w d tv iv lv fl s) {lv' : Value} {fl' : List Nat} {cnt : Nat} {o : Option (List VarT × List ST × List Int × Lf)} (hl : LifV B w lv' fl' cnt o) (hob : ∀ k ∈ fl', k ∉ fpK d tv iv []) (hk : Keep [d] w w2) (hb : Blk w2 d [tv, iv, lv'] TD) : Dv B w2 d tv iv lv' fl' { s with lif := o, cnt := cnt } := by
 have hd : ∀ k ∈ fl', k ≠ d ∧ k ∉ obs tv ∧ k ∉ obs iv := fun k hk' => ⟨fun e => hob k hk' (mem_fpK.2 (.inl e)), fun hm => hob k hk' (mem_fpK.2 (.inr (.inl hm))), fun hm => hob k hk' (mem_fpK.2 (.inr (.inr (.inl hm))))⟩
 refine ⟨hb, h.lo, h.tx.keep hk fun k hk' hm => ?_, h.ip.keep hk fun k hk' hm => ?_, hl.keep hk fun k hk' hm => (hd k hk').1 (List.mem_singleton.1 hm), hd⟩
 ·obtain ⟨L, hL⟩ := own_blkE h.tx k (mem_obs.2 hk')
  rw [List.mem_singleton.1 hm] at hL
  exact Blk.ne h.bk hL neDS rfl
 ·obtain ⟨L, hL⟩ := own_blkE h.ip k hk'
  rw [List.mem_singleton.1 hm] at hL
  exact Blk.ne h.bk hL neDL rfl
theorem Dv.goL (h : Dv B w d tv iv lv fl s) {fl' : List Nat} {cnt : Nat} {o : Option (List VarT × List ST × List Int × Lf)} (hk : Keep fl w w1) (hl : LifV B w1 lv fl' cnt o) (hob : ∀ k ∈ fl', k ∈ fl ∨ w.heap.size ≤ k) : Dv B w1 d tv iv lv fl' { s with lif := o, cnt := cnt } ∧ Tn (fpK d tv iv fl) (fpK d tv iv fl') w w1 := by
 have hlt := h.lt
 have hnf : ∀ k ∈ fpK d tv iv [], k ∉ fl := fun k hk' hm => by
  obtain ⟨a, b, c⟩ := h.dj k hm
  rcases mem_fpK.1 hk' with h1 | h1 | h1 | h1
  ·exact a h1
  ·exact b h1
  ·exact c h1
  ·cases h1
 have hnew : ∀ k ∈ fl', k ∉ fpK d tv iv [] := fun k hk' hm => by
  rcases hob k hk' with h1 | h1
  ·exact hnf k hm h1
  ·have := (hlt k (mem_fpK.2 ((mem_fpK.1 hm).imp id fun h => h.imp id fun h => h.imp id fun h => by cases h))).2
   omega
 refine ⟨⟨hk.blk h.bk (hnf d (mem_fpK.2 (.inl rfl))), h.lo, h.tx.keep hk fun k hk' => hnf k (mem_fpK.2 (.inr (.inl (mem_obs.2 hk')))), h.ip.keep hk fun k hk' => hnf k (mem_fpK.2 (.inr (.inr (.inl hk')))), hl, fun k hk' => ⟨fun e => hnew k hk' (mem_fpK.2 (.inl e)), fun hm => hnew k hk' (mem_fpK.2 (.inr (.inl hm))), fun hm => hnew k hk' (mem_fpK.2 (.inr (.inr (.inl hm))))⟩⟩, hk.mono fun k hk' => .inl (mem_fpK.2 (.inr (.inr (.inr hk')))), fun k hk' => ?_⟩
 rcases mem_fpK.1 hk' with h1 | h1 | h1 | h1
 ·exact .inl (mem_fpK.2 (.inl h1))
 ·exact .inl (mem_fpK.2 (.inr (.inl h1)))
 ·exact .inl (mem_fpK.2 (.inr (.inr (.inl h1))))
 ·exact (hob k h1).imp (fun h => mem_fpK.2 (.inr (.inr (.inr h)))) id
theorem own_st {v : Value} {l : List (List UInt8)} (h : Own w B TS 1 v l.length (strs l)) : StV w v l := by
 rcases h.2 with ⟨rfl, h2⟩ | ⟨g, cap, cur, rfl, _, hb, hc, _, ht⟩
 ·exact ⟨none, 0, by rw [h2], by omega, fun h0 => by omega⟩
 ·refine ⟨_, cap, rfl, hc, fun _ => ⟨g, 0, rfl, hb.lt, hb.range ?_⟩⟩
  rw [List.drop_zero, strs_length]
  rw [Nat.mul_one] at ht
  exact ht
end
structure Ck (w00 w : World) (c d : Nat) (fw fd : List Nat) (L : List UInt8) (s : Ds) : Prop where
 k0 : Keep [] w00 w
 ct : Cw w00.heap.size w c d fw L
 dk : DkV w00.heap.size w d fd s
 dj : ∀ k ∈ fw, k ∉ fd
def CkTo (w00 w w' : World) (c d : Nat) (fw fd : List Nat) (L : List UInt8) (s : Ds) : Prop := ∃ fw' fd', Ck w00 w' c d fw' fd' L s ∧ Keep (fw ++ fd) w w' ∧ (∀ k ∈ fw', k ∈ fw ∨ w.heap.size ≤ k) ∧ ∀ k ∈ fd', k ∈ fd ∨ w.heap.size ≤ k
section
variable {w00 w w1 w2 : World} {c d : Nat} {fw fd fw' fd' : List Nat} {L L' L2 : List UInt8} {s s' s2 : Ds}
theorem Ck.keep0 (h : Ck w00 w c d fw fd L s) (hk : Keep [] w w1) : Ck w00 w1 c d fw fd L s := ⟨h.k0.tr hk, h.ct.keep0 hk, h.dk.keep0 hk, h.dj⟩
theorem Ck.low (h : Ck w00 w c d fw fd L s) : ∀ k ∈ fw ++ fd, w00.heap.size ≤ k ∧ k < w.heap.size := fun k hk => (List.mem_append.1 hk).elim (h.ct.lt k) (h.dk.lt k)
theorem Ck.here (h : Ck w00 w c d fw fd L s) : CkTo w00 w w c d fw fd L s := ⟨fw, fd, h, Keep.refl _ _, fun _ hk => .inl hk, fun _ hk => .inl hk⟩
theorem CkTo.late (hk : Keep [] w w1) (h : CkTo w00 w1 w2 c d fw fd L s) : CkTo w00 w w2 c d fw fd L s := by
 obtain ⟨fw', fd', h1, h2, h3, h4⟩ := h
 exact ⟨fw', fd', h1, hk.of0.tr h2, fun k hk' => (h3 k hk').imp id fun h => Nat.le_trans hk.size h, fun k hk' => (h4 k hk').imp id fun h => Nat.le_trans hk.size h⟩
theorem CkTo.on {fw1 fd1 : List Nat} (h2 : Keep (fw ++ fd) w w1) (h3 : ∀ k ∈ fw1, k ∈ fw ∨ w.heap.size ≤ k) (h4 : ∀ k ∈ fd1, k ∈ fd ∨ w.heap.size ≤ k) (h' : CkTo w00 w1 w2 c d fw1 fd1 L2 s2) : CkTo w00 w w2 c d fw fd L2 s2 := by
 obtain ⟨fw2, fd2, g1, g2, g3, g4⟩ := h'
 refine ⟨fw2, fd2, g1, h2.trans g2 fun k hk => ?_, fun k hk => ?_, fun k hk => ?_⟩
 ·rcases List.mem_append.1 hk with hk | hk
  ·exact (h3 k hk).imp (fun h => List.mem_append.2 (.inl h)) id
  ·exact (h4 k hk).imp (fun h => List.mem_append.2 (.inr h)) id
 ·exact (g3 k hk).elim (h3 k) fun h => .inr (Nat.le_trans h2.size h)
 ·exact (g4 k hk).elim (h4 k) fun h => .inr (Nat.le_trans h2.size h)
theorem Ck.tells (h : Ck w00 w c d fw fd L s) (hc : Cw w00.heap.size w1 c d fw' L') (ht : Tn fw fw' w w1) : CkTo w00 w w1 c d fw fd L' s := by
 refine ⟨fw', fd, ⟨h.ct.k0 h.k0 ht, hc, h.dk.keep ht.1 fun k hk hm => h.dj k hm hk, fun k hk hm => ?_⟩, ht.1.mono fun k hk => .inl (List.mem_append.2 (.inl hk)), ht.2, fun _ hk => .inl hk⟩
 rcases ht.2 k hk with h1 | h1
 ·exact h.dj k h1 hm
 ·have := (h.dk.lt k hm).2
  omega
theorem Ck.turns (h : Ck w00 w c d fw fd L s) (hd : DkV w00.heap.size w1 d fd' s') (ht : Tn fd fd' w w1) : CkTo w00 w w1 c d fw fd L s' := by
 refine ⟨fw, fd', ⟨h.k0.trans ht.1 fun k hm => .inr (h.dk.lt k hm).1, h.ct.keep ht.1 fun k hk hm => h.dj k hk hm, hd, fun k hk hm => ?_⟩, ht.1.mono fun k hk => .inl (List.mem_append.2 (.inr hk)), fun _ hk => .inl hk, ht.2⟩
 rcases ht.2 k hm with h1 | h1
 ·exact h.dj k hk h1
 ·have := (h.ct.lt k hk).2
  omega
end
end
section
open Go.Proofs
theorem size_lfp : sizeOk Tryz.prog 43 1 = true := by kernel_rfl
theorem doZS_sp (W : List Is) (inp : List Int) {s : Sp} (h : spFault s = 0) (z : Lz) : (doZS nwL W inp s z).1.lf = (doSp W inp s z.lf).1 ∧ (doZS nwL W inp s z).2 = (doSp W inp s z.lf).2 := by
 unfold doZS
 rw [if_pos h]
 exact doZ_lf _ _ _ _
theorem spFault_64 (s : Sp) : in64 (spFault s) := by
 unfold spFault in64
 repeat' split
 all_goals decide
section
variable {w00 w : World} {c d : Nat} {fw fd : List Nat} {L : List UInt8} {s : Ds}
theorem Ck.fresh (h : Ck w00 w c d fw fd L s) {k : Nat} (hk : w.heap.size ≤ k) : k ∉ fw ∧ k ∉ fd := ⟨fun hm => by have := (h.ct.lt k hm).2; omega, fun hm => by have := (h.dk.lt k hm).2; omega⟩
theorem Ck.nf (h : Ck w00 w c d fw fd L s) {w1 : World} {v : Value} (hv : Nw w1 v) (hs : w.heap.size ≤ w1.heap.size) : NF v fw := fun b q n k he h0 => (h.fresh (Nat.le_trans hs (hv b q n k he h0))).1
theorem program_ret {g : Nat} {fst cap : List Value} (f : List VarT → List ST → Ds × List UInt8) (hg : callable Tryz.prog g = true) (hw : Lw w00) (h : Ck w00 w c d fw fd L s) (hL : L.length ≤ 700000000000) (htx : txtN s.txt ≤ 100000)
  (hdo : ∀ vs body w1 x F, parseOf (Lib.join s.txt [10]) = .ok (vs, body) → Ck w00 w1 c d fw fd L s → Keep [] w w1 → ProgV F w1 x vs body → In F w1 → Ret Tryz.prog g (fst ++ [x] ++ cap) w1 fun r w' => r = .tuple #[] ∧ CkTo w00 w1 w' c d fw fd (L ++ (f vs body).2) (f vs body).1) :
  Ret Tryz.prog 62 [.pointer (some ⟨c, 0, none⟩), .func (.func g) fst.toArray cap.toArray] w fun r w' => r = .tuple #[] ∧ CkTo w00 w w' c d fw fd (L ++ (withP s f).2) (withP s f).1 := by
 obtain ⟨tv, iv, lv, fl, hD, hfd⟩ := h.dk
 obtain ⟨ta, tc, htv⟩ := hD.tx.form
 have hjl := join_len s.txt
 have htl := txtN_len s.txt
 refine ret_of 33 Tryz.func62 rfl rfl (by simp) ?_
 refine au ?_
 refine pl_val _ rfl rfl (val_load1 hT rfl rfl rfl (h.ct.desk.1)) ?_
 refine lB hD.bk ?_
 refine oC (join_ret (own_st hD.tx) (by omega) (by omega)) ?_
 rintro r w1 ⟨rfl, hk1⟩
 refine oC (parse_ret (Lib.join s.txt [10]) (by omega) (hw.keep (h.k0.tr hk1))) ?_
 rintro r w2 ⟨⟨x, F, rfl, hP, hcap, hFb⟩, hk2⟩
 have hF2 : In F w2 := fun k hk => (hFb k hk).2
 have hP0 := hP
 obtain ⟨vv, bv, rfl, hv, hb⟩ := hP
 obtain ⟨av, capv, rfl⟩ := hv.form
 obtain ⟨ab, capb, rfl⟩ := hb.form
 refine au ?_
 refine pl_op rfl rfl (opTo_allocN _ rfl zero_pr ?_)
 intro w3 x4 hx4 hs3 hk3 hp3
 refine au ?_
 refine pl_op rfl rfl (opTo_allocN _ rfl zero_fault ?_)
 intro w4 x5 hx5 hs4 hk4 hf4
 have hp4 := hk4.blk hp3 (by simp)
 refine pl_op rfl rfl (opTo_storeN _ rfl rfl rfl rfl size_pr hp4 (by simp [pz]) (one_pr _ _ _ _ _ _) ?_)
 intro w5 hs5 hk5 hp5
 rw [splice_whole (by rfl)] at hp5
 have hf5 := hk5.blk hf4 (by simp; omega)
 refine pl_op rfl rfl (opTo_storeN _ rfl rfl rfl rfl size_fault hf5 (by simp) (one_fault _ _) ?_)
 intro w6 hs6 hk6 hf6
 rw [splice_whole (by rfl)] at hf6
 have hp6 := hk6.blk hp5 (by simp; omega)
 have hk24 : Keep [] w2 w4 := hk3.tr hk4
 have hk26 : Keep [] w2 w6 := (hk24.trB hk5 (by omega)).trB hk6 (by have := hk3.size; omega)
 have hk06 : Keep [] w w6 := (hk1.tr hk2).tr hk26
 have h6 := h.keep0 hk06
 refine lB hf6 ?_
 cases hX : parseOf (Lib.join s.txt [10]) with
 | error e =>
  obtain ⟨e1, e2, e3⟩ := parse_fr _ e hX
  have hwp : withP s f = (s, tellB wNo [e.1, e.2]) := by unfold withP; rw [hX]
  rw [hX] at hf6
  rw [hwp]
  have e1' : (fltOf (.error e : Except Flt (List VarT × List ST))).1 ≠ 0 := e1
  refine ye ?_
  refine au ?_
  refine rn_draw (fun w' => True ∧ Blk w' x5 [.int .i64 e.1, .int .i64 e.2] 34) [8] hMix ?_
  have hkd : Keep [] w6 w6.drew := (Keep.refl _ _).drew
  have hS : True ∧ Blk w6.drew x5 [.int .i64 e.1, .int .i64 e.2] 34 := ⟨trivial, hkd.blk hf6 (by simp)⟩
  have h7 := h6.keep0 hkd
  generalize w6.drew = w7 at *
  refine tk 0 ?_
  refine tk 1 ?_
  refine tk 2 ?_
  refine tk 3 ?_
  refine dr_val 4 _ rfl (by decide +kernel) rfl rfl (fun w9 hS9 => val_load1 hT rfl rfl rfl (Blk.cell hS9.2 (by rfl))) hS ?_
  refine tk 5 ?_
  refine dr_val 6 _ rfl (by decide +kernel) rfl rfl (fun w9 hS9 => val_load1 hT rfl rfl rfl (Blk.cell hS9.2 (by rfl))) hS ?_
  refine dr_op 7 rfl (by decide +kernel) rfl rfl (opTo_sliceN _ _ rfl rfl (slice_pair e.1 e.2) ?_)
  intro w8 gg hgg hs8 hk8 hb8
  refine ⟨fun _ => ⟨trivial, hk8.blk hS.2 (by simp)⟩, ?_⟩
  have h8 := h7.keep0 hk8
  refine dr_op 8 rfl (by decide +kernel) rfl rfl (opTo_call (fst := []) (cap := []) rfl rfl rfl rfl (by decide +kernel) ((tell_ret wNo (by decide) (by decide) hw.lt h8.k0 h8.ct (lies_at rfl hb8) (fun b q n k he _ => by
   injection he with he
   injection he with he
   injection he with he _
   exact (h7.fresh (by omega)).1) (all64_app (all64_1 e2) (all64_1 e3)) (by simp only [List.length_cons, List.length_nil]; omega)).mono ?_))
  rintro r w9 ⟨rfl, fw9, h9, ht9⟩
  refine ⟨fun h => absurd (by simp) h, ?_⟩
  refine dr_done (by decide +kernel) ?_
  exact rn_ret Tryz.func62 (.inr (.inl ⟨rfl, rfl⟩)) ⟨rfl, CkTo.late ((hk06.tr hkd).tr hk8) (h8.tells h9 ht9)⟩
 | ok q =>
  have hwp : withP s f = f q.1 q.2 := by unfold withP; rw [hX]
  rw [hX] at hf6 hp6 hP0
  rw [hwp]
  have e0 : (fltOf (.ok q : Except Flt (List VarT × List ST))).1 = 0 := rfl
  refine nay ?_
  refine au ?_
  refine pl_val (.agg #[.slice av q.1.length capv, .slice ab q.2.length capb]) rfl rfl (val_load [.slice av q.1.length capv, .slice ab q.2.length capb] hT rfl rfl rfl (hp6.range (by rfl))) ?_
  refine pl_op rfl rfl (opTo_call (fst := fst) (cap := cap) rfl rfl rfl rfl hg ((hdo q.1 q.2 w6 _ F hX h6 hk06 (hP0.keep hk26 hF2.stays) (hF2.keep hk26)).mono ?_))
  rintro r w7 ⟨rfl, h7⟩
  refine au ?_
  exact rn_end Tryz.func62 (.inr (.inl ⟨rfl, rfl⟩)) ⟨rfl, CkTo.late hk06 h7⟩
end
end
end E
end Go.Proofs.YtoigoojdbpbhoagGreatDoor
