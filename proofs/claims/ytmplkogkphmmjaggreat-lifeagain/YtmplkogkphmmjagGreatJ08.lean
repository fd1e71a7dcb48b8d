/- Several texts in one: StoB, StoC, StoD, StoE, StoF, StoG. -/
import Derived.Test.YtmplkogkphmmjagGreatJ07
/- The contracts of store.find, Open, Gen, Read. -/
namespace Go.Proofs.YtmplkogkphmmjagGreat
set_option maxRecDepth 20000
set_option maxHeartbeats 4000000
namespace E
open Go.Proofs

theorem zero_state : ((Tryz.prog.info? 85).bind (·.zero)).map (·.cells) = some (ints (List.replicate 17 0)).toArray := by kernel_rfl
theorem built_state (g : Int) : Tryz.prog.built 85 [(0, Value.int .i64 g)] = some (ints (g :: List.replicate 16 0)).toArray := by kernel_rfl

def pgAt (S : List Int) (t0 t1 : Int) : Nat → List Int
  | 0 => List.replicate 14 0
  | 1 => heldS S t0 ++ List.replicate 6 0
  | _ => (heldS S t0 ++ heldS S t1).take 14

theorem pgAt_length {S : List Int} (hS : S.length = 272) (t0 t1 : Int) (j : Nat) : (pgAt S t0 t1 j).length = 14 := by
  unfold pgAt
  split <;> simp [heldS_length hS]

theorem arrT : arrInt Tryz.prog 82 2 = true := by decide +kernel
theorem arrP : arrInt Tryz.prog 83 14 = true := by decide +kernel

theorem rangeAt_take {w : World} {b i : Nat} {cs ds : List Value} (h : w.rangeAt b i cs) (hd : ds = cs.take ds.length) : w.rangeAt b i ds := fun j u hu => h j u (by
  rw [hd, List.getElem?_take] at hu
  split at hu
  · exact hu
  · cases hu)

theorem find_ret {B : Nat} {w : World} {g cap : Nat} {S : List Int} (ho : w.ownsRow B 109 8 (.slice (some ⟨g, 0, none⟩) 34 cap) 34 (ints S)) (hS : S.length = 272) (hcap : 2 ≤ cap) :
    Ret Tryz.prog 31 [.slice (some ⟨g, 0, none⟩) 34 cap] w fun v w' => v = .agg (ints (stS S)).toArray ∧ Keep [] w w' := by
  refine ret_of 48 Tryz.func31 rfl rfl (by simp) ?_
  refine au ?_
  refine pl_op rfl rfl (opTo_alloc _ rfl zero_state ?_)
  refine au ?_
  refine pl_op rfl rfl (opTo_alloc _ rfl zero_words ?_)
  rw [World.size_alloc]
  have hk1 : Keep [] w ((w.alloc (.cells (ints (List.replicate 17 0)).toArray 85)).alloc (.cells (ints (List.replicate 8 0)).toArray 109)) := ((Keep.refl _ _).alloc _).alloc _
  have hres : Blk ((w.alloc (.cells (ints (List.replicate 17 0)).toArray 85)).alloc (.cells (ints (List.replicate 8 0)).toArray 109)) w.heap.size (ints (List.replicate 17 0)) 85 := (Blk.new _ _ _).alloc _
  have hlast : Blk ((w.alloc (.cells (ints (List.replicate 17 0)).toArray 85)).alloc (.cells (ints (List.replicate 8 0)).toArray 109)) (w.heap.size + 1) (ints (List.replicate 8 0)) 109 := by
    have := Blk.new (w.alloc (.cells (ints (List.replicate 17 0)).toArray 85)) (ints (List.replicate 8 0)) 109
    rwa [World.size_alloc] at this
  generalize ((w.alloc (.cells (ints (List.replicate 17 0)).toArray 85)).alloc (.cells (ints (List.replicate 8 0)).toArray 109)) = w1 at *
  have hg : g < w.heap.size := (ho.lt g rfl).2
  refine au ?_
  refine pl_val _ rfl rfl (val_sliceTo 2 hT rfl rfl rfl rfl rfl hcap w1) ?_
  refine au ?_
  refine rn_ind (fun m σ w' => ∃ j, m = 2 - j ∧ j ≤ 2 ∧ σ = [(0, .slice (some ⟨g, 0, none⟩) 34 cap), (2, .pointer (some ⟨w.heap.size, 0, none⟩)), (3, .pointer (some ⟨w.heap.size + 1, 0, none⟩)), (11, .slice (some ⟨g, 0, none⟩) 2 cap), (12, .int .i64 2), (13, .int .i64 (j : Nat))] ∧
      Keep [] w w' ∧ Blk w' w.heap.size (ints (List.replicate 17 0)) 85 ∧ Blk w' (w.heap.size + 1) (ints (rootMax S j)) 109)
    (2 - 0) _ ?_ ⟨0, rfl, by decide, rfl, hk1, hres, hlast⟩ ?_
  · exact ⟨rfl, rfl, rfl, rfl, rfl, rfl, trivial⟩
  clear hk1 hres hlast
  rintro m σ w2 ih ⟨j, hm, hj, rfl, hk2, hres, hlast⟩
  refine au ?_
  rcases Nat.lt_or_ge j 2 with hlt | hge
  · refine pl_val (.bool true) rfl rfl (val_int .i64 _ _ _ rfl rfl rfl (by simp [intOp]; omega) w2) ?_
    refine au ?_
    have h8 : (sector S j).length = 8 := sector_length hS (by omega)
    have hm8 : (rootMax S j).length = 8 := rootMax_length hS j (by omega)
    refine pl_val _ rfl rfl (val_index j hT rfl rfl rfl rfl rfl hlt w2) ?_
    refine pl_val (.agg (ints (sector S j)).toArray) rfl rfl (val_load _ hT rfl rfl (by rw [ints_length, h8]; rfl) (sure_at (hk2.owns ho (by simp)) hS (by omega))) ?_
    refine pl_op rfl rfl (opTo_alloc _ rfl zero_words ?_)
    have hk3 : Keep [] w (w2.alloc (.cells (ints (List.replicate 8 0)).toArray 109)) := hk2.alloc _
    have hx3 := Blk.new w2 (ints (List.replicate 8 0)) 109
    have hres3 := hres.alloc (.cells (ints (List.replicate 8 0)).toArray 109)
    have hlast3 := hlast.alloc (.cells (ints (List.replicate 8 0)).toArray 109)
    have hsz := hk2.size
    generalize (w2.alloc (.cells (ints (List.replicate 8 0)).toArray 109)) = w3 at *
    refine au ?_
    refine pl_op rfl rfl (opTo_store _ rfl rfl rfl rfl (by rw [ints_length, h8]; decide +kernel) hx3 (by rw [ints_length, h8]; decide) (ints_one _) ?_)
    rw [splice_all (by rw [ints_length, h8]; rfl)]
    have hk4 := hk3.setRow w2.heap.size (ints (sector S j)).toArray (.inr hsz)
    have hx4 := hx3.set (ints (sector S j))
    have hres4 := hres3.other (ints (sector S j)).toArray (c := w2.heap.size) (by have := hres.lt; omega)
    have hlast4 := hlast3.other (ints (sector S j)).toArray (c := w2.heap.size) (by have := hlast.lt; omega)
    have hnx : w.heap.size + 1 ≠ w2.heap.size := by have := hlast.lt; omega
    generalize (w3.setRow w2.heap.size (ints (sector S j)).toArray) = w4 at *
    refine au ?_
    refine pl_val _ rfl rfl (val_indexArr 0 hT rfl rfl rfl rfl rfl (by decide) w4) ?_
    refine pl_val (.int .i64 (hd (sector S j))) rfl rfl (val_load1 hT rfl rfl rfl (hx4.cell (by obtain ⟨a, b, c, d, e, f, g, i, h⟩ := list8 h8; rw [h]; rfl))) ?_
    refine pl_val _ rfl rfl (val_indexArr 0 hT rfl rfl rfl rfl rfl (by decide) w4) ?_
    refine pl_val (.int .i64 (hd (rootMax S j))) rfl rfl (val_load1 hT rfl rfl rfl (hlast4.cell (by obtain ⟨a, b, c, d, e, f, g, i, h⟩ := list8 hm8; rw [h]; rfl))) ?_
    by_cases hgt : hd (sector S j) > hd (rootMax S j)
    · refine pl_val (.bool true) rfl rfl (val_int .i64 _ _ _ rfl rfl rfl (by simp only [intOp, hgt, decide_true]) w4) ?_
      refine au ?_
      refine pl_val (.agg (ints (sector S j)).toArray) rfl rfl (val_load _ hT rfl rfl (by rw [ints_length, h8]; rfl) (hx4.range (by simp))) ?_
      refine pl_op rfl rfl (opTo_store _ rfl rfl rfl rfl (by rw [ints_length, h8]; decide +kernel) hlast4 (by rw [ints_length, ints_length, h8, hm8]; decide) (ints_one _) ?_)
      rw [splice_all (by rw [ints_length, h8, ints_length, hm8])]
      have hk5 := hk4.setRow (w.heap.size + 1) (ints (sector S j)).toArray (.inr (by omega))
      have hlast5 := hlast4.set (ints (sector S j))
      have hres5 := hres4.other (ints (sector S j)).toArray (c := w.heap.size + 1) (by omega)
      generalize (w4.setRow (w.heap.size + 1) (ints (sector S j)).toArray) = w5 at *
      refine au ?_
      refine pl_val (.int .i64 ((j + 1 : Nat) : Int)) rfl rfl (val_int .i64 j 1 _ rfl rfl rfl (by simp only [intOp]; rw [wrap_i64 (by omega) (by omega)]; rfl) w5) ?_
      refine au ?_
      refine rn_sub ?_ (ih (2 - (j + 1)) _ w5 (by omega) ⟨j + 1, rfl, hlt, rfl, hk5, hres5, by rw [rootMax, if_pos hgt]; exact hlast5⟩)
      exact ⟨rfl, rfl, rfl, rfl, rfl, rfl, trivial⟩
    · refine pl_val (.bool false) rfl rfl (val_int .i64 _ _ _ rfl rfl rfl (by simp only [intOp, hgt, decide_false]) w4) ?_
      refine au ?_
      refine pl_val (.int .i64 ((j + 1 : Nat) : Int)) rfl rfl (val_int .i64 j 1 _ rfl rfl rfl (by simp only [intOp]; rw [wrap_i64 (by omega) (by omega)]; rfl) w4) ?_
      refine au ?_
      refine rn_sub ?_ (ih (2 - (j + 1)) _ w4 (by omega) ⟨j + 1, rfl, hlt, rfl, hk4, hres4, by rw [rootMax, if_neg hgt]; exact hlast4⟩)
      exact ⟨rfl, rfl, rfl, rfl, rfl, rfl, trivial⟩
  have hjj : j = 2 := by omega
  subst hjj
  clear ih
  refine pl_val (.bool false) rfl rfl (val_int .i64 _ _ _ rfl rfl rfl (by simp [intOp]) w2) ?_
  refine au ?_
  have hl8 := lastRoot_length hS
  replace hlast : Blk w2 (w.heap.size + 1) (ints (lastRoot S)) 109 := hlast
  have hst : stS S = genS S :: (tabS S ++ pgS S) := rfl
  have hpg : pgS S = pgAt S ((tabS S).getD 0 0) ((tabS S).getD 1 0) 2 := rfl
  have hgen : genS S = hd (lastRoot S) := rfl
  have htab : tabS S = ((lastRoot S).drop 1).take 2 := rfl
  rw [hst, hpg, hgen, htab]
  generalize lastRoot S = R at *
  obtain ⟨a0, a1, a2, a3, a4, a5, a6, a7, rfl⟩ := list8 hl8
  clear hst hpg hgen htab hl8
  have hsz := hk2.size
  refine pl_val _ rfl rfl (val_indexArr 0 hT rfl rfl rfl rfl rfl (by decide) w2) ?_
  refine pl_val (.int .i64 a0) rfl rfl (val_load1 hT rfl rfl rfl (hlast.cell rfl)) ?_
  refine pl_val _ rfl rfl (val_build _ rfl rfl (built_state a0) w2) ?_
  refine pl_op rfl rfl (opTo_alloc _ rfl zero_state ?_)
  have hk3 : Keep [] w (w2.alloc (.cells (ints (List.replicate 17 0)).toArray 85)) := hk2.alloc _
  have hx3 := Blk.new w2 (ints (List.replicate 17 0)) 85
  have hres3 := hres.alloc (.cells (ints (List.replicate 17 0)).toArray 85)
  have hlast3 := hlast.alloc (.cells (ints (List.replicate 17 0)).toArray 85)
  have hx1 : w.heap.size ≠ w2.heap.size := by have := hres.lt; omega
  have hx2 : w.heap.size + 1 ≠ w2.heap.size := by have := hlast.lt; omega
  generalize (w2.alloc (.cells (ints (List.replicate 17 0)).toArray 85)) = w3 at *
  refine au ?_
  refine pl_op rfl rfl (opTo_store _ rfl rfl rfl rfl (by kernel_rfl) hx3 (by simp [ints]) (ints_one _) ?_)
  rw [splice_all (show (ints (a0 :: List.replicate 16 0)).length = (ints (List.replicate 17 0)).length from rfl)]
  have hk4 := hk3.setRow w2.heap.size (ints (a0 :: List.replicate 16 0)).toArray (.inr hsz)
  have hx4 := hx3.set (ints (a0 :: List.replicate 16 0))
  have hres4 := hres3.other (ints (a0 :: List.replicate 16 0)).toArray hx1
  have hlast4 := hlast3.other (ints (a0 :: List.replicate 16 0)).toArray hx2
  generalize (w3.setRow w2.heap.size (ints (a0 :: List.replicate 16 0)).toArray) = w4 at *
  refine au ?_
  refine rn_draw (fun _ => True) [] hMix ?_
  refine tk 0 ?_
  refine dr_any 1 _ rfl (by decide +kernel) rfl rfl (fun w' => val_sliceArr hT rfl rfl rfl w') ?_
  refine dr_any 2 _ rfl (by decide +kernel) rfl rfl (fun w' => val_sliceArrFrom 1 hT rfl rfl rfl rfl rfl (by decide) w') ?_
  refine dr_op 3 rfl (by decide +kernel) rfl rfl (opTo_copy (ints [a1, a2]) rfl rfl rfl (by decide +kernel) hx4.drew rfl (hlast4.drew.range rfl) (by simp [ints]) (ints_one _) fun r => ⟨fun _ => trivial, ?_⟩)
  refine dr_done (by decide +kernel) ?_
  have e1 : splice (ints (a0 :: List.replicate 16 0)) (0 + 1) (ints [a1, a2]) = ints (a0 :: a1 :: a2 :: pgAt S a1 a2 0) := rfl
  rw [e1]
  have hk5 := (hk4.drew).setRow w2.heap.size (ints (a0 :: a1 :: a2 :: pgAt S a1 a2 0)).toArray (.inr hsz)
  have hx5 := hx4.drew.set (ints (a0 :: a1 :: a2 :: pgAt S a1 a2 0))
  have hres5 := hres4.drew.other (ints (a0 :: a1 :: a2 :: pgAt S a1 a2 0)).toArray hx1
  clear hx4 hres4 hlast4 hk4 hk3 hx3 hres3 hlast3 hres hlast
  generalize (w4.drew.setRow w2.heap.size (ints (a0 :: a1 :: a2 :: pgAt S a1 a2 0)).toArray) = w5 at *
  generalize hx : w2.heap.size = x at *
  clear hk2 hx
  refine au ?_
  refine pl_val (.agg (ints [a1, a2]).toArray) rfl rfl (val_load _ hT rfl rfl rfl (hx5.range rfl)) ?_
  refine au ?_
  refine rn_ind (fun m σ w' => ∃ j, m = 2 - j ∧ j ≤ 2 ∧ σ = [(0, .slice (some ⟨g, 0, none⟩) 34 cap), (2, .pointer (some ⟨w.heap.size, 0, none⟩)), (6, .pointer (some ⟨x, 0, none⟩)), (32, .agg (ints [a1, a2]).toArray), (33, .int .i64 (j : Nat))] ∧
      Keep [] w w' ∧ Blk w' w.heap.size (ints (List.replicate 17 0)) 85 ∧ Blk w' x (ints (a0 :: a1 :: a2 :: pgAt S a1 a2 j)) 85)
    (2 - 0) _ ?_ ⟨0, rfl, by decide, rfl, hk5, hres5, hx5⟩ ?_
  · exact ⟨rfl, rfl, rfl, rfl, rfl, trivial⟩
  clear hk5 hres5 hx5
  rintro m σ w6 ih ⟨j, hm, hj, rfl, hk6, hres, hx6⟩
  refine au ?_
  rcases Nat.lt_or_ge j 2 with hlt | hge
  · refine pl_val (.bool true) rfl rfl (val_int .i64 _ _ _ rfl rfl rfl (by simp [intOp]; omega) w6) ?_
    refine au ?_
    obtain ⟨t, ht⟩ : ∃ t, [a1, a2][j]? = some t := ⟨_, List.getElem?_eq_getElem (by simpa using hlt)⟩
    refine pl_val (.int .i64 t) rfl rfl (val_at [a1, a2] j arrT rfl rfl rfl rfl hlt ht w6) ?_
    refine au ?_
    refine pl_op rfl rfl (opTo_call rfl rfl rfl rfl (by decide +kernel) ((held_ret (hk6.owns ho (by simp)) hS t).mono ?_))
    rintro v w7 ⟨rfl, hk7⟩
    have h8 := heldS_length hS t
    refine pl_op rfl rfl (opTo_alloc _ rfl zero_words ?_)
    have hkw7 := hk6.tr0 hk7
    have hk8 : Keep [] w (w7.alloc (.cells (ints (List.replicate 8 0)).toArray 109)) := hkw7.alloc _
    have hy8 := Blk.new w7 (ints (List.replicate 8 0)) 109
    have hres7 := hk7.blk hres (by simp)
    have hx7 := hk7.blk hx6 (by simp)
    have hres8 := hres7.alloc (.cells (ints (List.replicate 8 0)).toArray 109)
    have hx8 := hx7.alloc (.cells (ints (List.replicate 8 0)).toArray 109)
    have hn1 : w.heap.size ≠ w7.heap.size := by have := hres7.lt; omega
    have hn2 : x ≠ w7.heap.size := by have := hx7.lt; omega
    have hn3 := hkw7.size
    generalize (w7.alloc (.cells (ints (List.replicate 8 0)).toArray 109)) = w8 at *
    refine au ?_
    refine pl_op rfl rfl (opTo_store _ rfl rfl rfl rfl (by rw [ints_length, h8]; decide +kernel) hy8 (by rw [ints_length, h8]; decide) (ints_one _) ?_)
    rw [splice_all (by rw [ints_length, h8]; rfl)]
    have hk9 := hk8.setRow w7.heap.size (ints (heldS S t)).toArray (.inr hn3)
    have hy9 := hy8.set (ints (heldS S t))
    have hres9 := hres8.other (ints (heldS S t)).toArray hn1
    have hx9 := hx8.other (ints (heldS S t)).toArray hn2
    generalize (w8.setRow w7.heap.size (ints (heldS S t)).toArray) = w9 at *
    refine au ?_
    refine rn_draw (fun _ => True) [] hMix ?_
    refine tk 0 ?_
    refine tk 1 ?_
    refine dr_any 2 (.int .i64 ((j * 8 : Nat) : Int)) rfl (by decide +kernel) rfl rfl (fun w' => val_int .i64 j 8 _ rfl rfl rfl (by simp only [intOp]; rw [wrap_i64 (by omega) (by omega)]; simp) w') ?_
    refine dr_any 3 _ rfl (by decide +kernel) rfl rfl (fun w' => val_sliceArrFrom (j * 8) hT rfl rfl rfl rfl rfl (by omega) w') ?_
    refine dr_any 4 _ rfl (by decide +kernel) rfl rfl (fun w' => val_sliceArr hT rfl rfl rfl w') ?_
    have hcl : ((heldS S t).take (Nat.min 8 (14 - j * 8))).length = Nat.min 8 (14 - j * 8) := by rw [List.length_take, h8]; exact Nat.min_eq_left (Nat.min_le_left _ _)
    have hle : Nat.min 8 (14 - j * 8) ≤ 14 - j * 8 := Nat.min_le_right _ _
    refine dr_op 5 rfl (by decide +kernel) rfl rfl (opTo_copy (ints ((heldS S t).take (Nat.min 8 (14 - j * 8)))) rfl rfl rfl (by decide +kernel) hx9.drew (by rw [ints_length, hcl]) (rangeAt_take (hy9.drew.range (cs := ints (heldS S t)) (by simp)) (by rw [ints_length, hcl]; simp [ints, List.map_take])) (by rw [ints_length, hcl, ints_length]; simp [pgAt_length hS]; omega) (ints_one _) fun r => ⟨fun _ => trivial, ?_⟩)
    refine dr_done (by decide +kernel) ?_
    have e2 : splice (ints (a0 :: a1 :: a2 :: pgAt S a1 a2 j)) (0 + 3 + j * 8 * 1) (ints ((heldS S t).take (Nat.min 8 (14 - j * 8)))) = ints (a0 :: a1 :: a2 :: pgAt S a1 a2 (j + 1)) := by
      have hj2 : j = 0 ∨ j = 1 := by omega
      rcases hj2 with rfl | rfl
      · simp at ht
        subst ht
        simp only [pgAt]
        obtain ⟨b0, b1, b2, b3, b4, b5, b6, b7, hb⟩ := list8 h8
        rw [hb]
        rfl
      · simp at ht
        subst ht
        simp only [pgAt]
        obtain ⟨b0, b1, b2, b3, b4, b5, b6, b7, hb⟩ := list8 h8
        obtain ⟨c0, c1, c2, c3, c4, c5, c6, c7, hc⟩ := list8 (heldS_length hS a1)
        rw [hb, hc]
        rfl
    rw [e2]
    have hk10 := (hk9.drew).setRow x (ints (a0 :: a1 :: a2 :: pgAt S a1 a2 (j + 1))).toArray (.inr hsz)
    have hx10 := hx9.drew.set (ints (a0 :: a1 :: a2 :: pgAt S a1 a2 (j + 1)))
    have hres10 := hres9.drew.other (ints (a0 :: a1 :: a2 :: pgAt S a1 a2 (j + 1))).toArray hx1
    generalize (w9.drew.setRow x (ints (a0 :: a1 :: a2 :: pgAt S a1 a2 (j + 1))).toArray) = w10 at *
    refine au ?_
    refine pl_val (.int .i64 ((j + 1 : Nat) : Int)) rfl rfl (val_int .i64 j 1 _ rfl rfl rfl (by simp only [intOp]; rw [wrap_i64 (by omega) (by omega)]; rfl) w10) ?_
    refine au ?_
    refine rn_sub ?_ (ih (2 - (j + 1)) _ w10 (by omega) ⟨j + 1, rfl, hlt, rfl, hk10, hres10, hx10⟩)
    exact ⟨rfl, rfl, rfl, rfl, rfl, trivial⟩
  have hjj : j = 2 := by omega
  subst hjj
  refine pl_val (.bool false) rfl rfl (val_int .i64 _ _ _ rfl rfl rfl (by simp [intOp]) w6) ?_
  refine au ?_
  have h17 : (a0 :: a1 :: a2 :: pgAt S a1 a2 2).length = 17 := by simp [pgAt_length hS]
  refine pl_val (.agg (ints (a0 :: a1 :: a2 :: pgAt S a1 a2 2)).toArray) rfl rfl (val_load _ hT rfl rfl (by rw [ints_length, h17]; rfl) (hx6.range (by simp))) ?_
  refine pl_op rfl rfl (opTo_store (ints (a0 :: a1 :: a2 :: pgAt S a1 a2 2)) rfl rfl rfl rfl (by rw [ints_length, h17]; decide +kernel) hres (by rw [ints_length, h17]; decide) (ints_one _) ?_)
  rw [splice_all (by rw [ints_length, h17]; rfl)]
  refine au ?_
  refine rn_ret Tryz.func31 (.inr (.inr (.inl ⟨_, _, _, rfl, rfl, loadVar_agg hT (cs := ints (a0 :: a1 :: a2 :: pgAt S a1 a2 2)) (by rw [ints_length, h17]; rfl) ((hres.set _).range (by simp))⟩))) ⟨?_, hk6.setRow _ _ (.inr (Nat.le_refl _))⟩
  rfl
end E
end Go.Proofs.YtmplkogkphmmjagGreat

/- The contracts of store's Open, Gen, Read, Check. -/
namespace Go.Proofs.YtmplkogkphmmjagGreat
set_option maxRecDepth 20000
set_option maxHeartbeats 4000000
namespace E
open Go.Proofs

/-- A store in memory, on the disk at d. -/
def StoreV (w : World) (s d : Nat) : Prop := Blk w s [.pointer (some ⟨d, 0, none⟩)] 89

theorem built_store (d : Nat) : Tryz.prog.built 89 [(0, Value.pointer (some ⟨d, 0, none⟩))] = some [Value.pointer (some ⟨d, 0, none⟩)].toArray := by kernel_rfl

theorem open_ret (d : Nat) (w : World) : Ret Tryz.prog 42 [.pointer (some ⟨d, 0, none⟩)] w fun v w' => v = .pointer (some ⟨w.heap.size, 0, none⟩) ∧ StoreV w' w.heap.size d ∧ Keep [] w w' := by
  refine ret_of 6 Tryz.func42 rfl rfl (by simp) ?_
  refine au ?_
  refine pl_val _ rfl rfl (val_build _ rfl rfl (built_store d) w) ?_
  refine pl_op rfl rfl (opTo_box _ rfl rfl rfl ?_)
  refine au ?_
  exact rn_ret Tryz.func42 (.inl ⟨_, rfl, rfl⟩) ⟨rfl, Blk.new w _ _, (Keep.refl _ _).alloc _⟩

theorem owns_cap {w : World} {B e size n g cap : Nat} {xs : List Value} (h : w.ownsRow B e size (.slice (some ⟨g, 0, none⟩) n cap) n xs) : n ≤ cap := by
  rcases h.2 with ⟨h1, h2⟩ | ⟨g', cap', cur, h1, _, _, hc, _⟩
  · cases h1
  · injection h1 with e1 e2 e3
    subst e3
    first | exact hc | omega

theorem gen_ret {B : Nat} {w : World} {s d : Nat} {S : List Int} {L : List Wr} {wv : Value} (hs : StoreV w s d) (h : DiskV B w d S L wv) :
    Ret Tryz.prog 13 [.pointer (some ⟨s, 0, none⟩)] w fun v w' => v = .int .i64 (genS S) ∧ Keep [] w w' := by
  refine ret_of 10 Tryz.func13 rfl rfl (by simp) ?_
  refine au ?_
  refine pl_val (.pointer (some ⟨d, 0, none⟩)) rfl rfl (val_load1 hT rfl rfl rfl (hs.cell rfl)) ?_
  refine pl_op rfl rfl (opTo_call rfl rfl rfl rfl (by decide +kernel) ((sure_ret h).mono ?_))
  rintro v w1 ⟨g, cap, rfl, ho, hk⟩
  refine pl_op rfl rfl (opTo_call rfl rfl rfl rfl (by decide +kernel) ((find_ret ho h.len (by have := owns_cap ho; omega)).mono ?_))
  rintro v w2 ⟨rfl, hk2⟩
  refine pl_val (.int .i64 (genS S)) rfl rfl (val_field1 0 _ rfl rfl (by decide +kernel) rfl w2) ?_
  refine au ?_
  exact rn_ret Tryz.func13 (.inl ⟨_, rfl, rfl⟩) ⟨rfl, hk.tr0 hk2⟩

theorem stS_pages {S : List Int} (hS : S.length = 272) : ((ints (stS S)).drop 3).take 14 = ints (pgS S) := by
  obtain ⟨a, b, h⟩ := list2 (tabS_length hS)
  have hp := pgS_length hS
  simp only [stS, h]
  simp [ints, hp, List.take_of_length_le]

theorem sread_ret {B : Nat} {w : World} {s d : Nat} {S : List Int} {L : List Wr} {wv : Value} (hs : StoreV w s d) (h : DiskV B w d S L wv) (i : Int) :
    Ret Tryz.prog 59 [.pointer (some ⟨s, 0, none⟩), .int .i64 i] w fun v w' => v = .agg (ints (readS S i)).toArray ∧ Keep [] w w' := by
  refine ret_of 22 Tryz.func59 rfl rfl (by simp) ?_
  refine au ?_
  refine pl_op rfl rfl (opTo_alloc _ rfl zero_words ?_)
  have hr := Blk.new w (ints (List.replicate 8 0)) 109
  have hk1 : Keep [] w (w.alloc (.cells (ints (List.replicate 8 0)).toArray 109)) := (Keep.refl _ _).alloc _
  have h1 := h.keep hk1 (by simp)
  have hs1 := hk1.blk hs (by simp)
  generalize (w.alloc (.cells (ints (List.replicate 8 0)).toArray 109)) = w1 at *
  refine au ?_
  refine pl_op rfl rfl (opTo_call rfl rfl rfl rfl (by decide +kernel) ((hasP_ret i _).mono ?_))
  rintro v w1 ⟨rfl, rfl⟩
  cases hb : hasP i with
  | false =>
    refine au ?_
    refine pl_val _ rfl rfl (val_build _ rfl rfl built_words0 w1) ?_
    refine pl_op rfl rfl (opTo_store _ rfl rfl rfl rfl (by kernel_rfl) hr (by simp [ints]) (ints_one _) ?_)
    rw [splice_all rfl]
    refine au ?_
    refine rn_ret Tryz.func59 (.inr (.inr (.inl ⟨_, _, _, rfl, rfl, loadVar_agg hT (cs := ints (List.replicate 8 0)) rfl ((hr.set _).range (by simp))⟩))) ⟨?_, hk1.setRow _ _ (.inr (Nat.le_refl _))⟩
    simp [readS, hb]
    rfl
  | true =>
    have hi : 0 ≤ i ∧ i < 14 := by simpa [hasP] using hb
    refine au ?_
    refine pl_val (.pointer (some ⟨d, 0, none⟩)) rfl rfl (val_load1 hT rfl rfl rfl (hs1.cell rfl)) ?_
    refine pl_op rfl rfl (opTo_call rfl rfl rfl rfl (by decide +kernel) ((sure_ret h1).mono ?_))
    rintro v w2 ⟨g, cap, rfl, ho, hk2⟩
    refine au ?_
    refine pl_op rfl rfl (opTo_call rfl rfl rfl rfl (by decide +kernel) ((find_ret ho h.len (by have := owns_cap ho; omega)).mono ?_))
    rintro v w3 ⟨rfl, hk3⟩
    refine pl_val (.agg (ints (pgS S)).toArray) rfl rfl (val_fieldAgg (m := 14) 3 _ _ rfl rfl (by decide +kernel) (stS_pages h.len) w3) ?_
    refine au ?_
    have hp14 := pgS_length h.len
    refine pl_val (.int .i64 ((pgS S).getD i.toNat 0)) rfl rfl (val_at (pgS S) i.toNat arrP rfl rfl rfl (by omega) (by omega) (by rw [List.getD_eq_getElem?_getD, List.getElem?_eq_getElem (by omega)]; rfl) w3) ?_
    refine pl_op rfl rfl (opTo_call rfl rfl rfl rfl (by decide +kernel) ((held_ret (hk3.owns ho (by simp)) h.len _).mono ?_))
    rintro v w4 ⟨rfl, hk4⟩
    have hk14 := (hk2.tr0 hk3).tr0 hk4
    have hr4 := hk14.blk hr (by simp)
    have hlen : (ints (heldS S ((pgS S).getD i.toNat 0))).length = 8 := by rw [ints_length, heldS_length h.len]
    refine pl_op rfl rfl (opTo_store _ rfl rfl rfl rfl (by rw [hlen]; decide +kernel) hr4 (by rw [hlen]; decide) (ints_one _) ?_)
    rw [splice_all (by rw [hlen]; rfl)]
    refine au ?_
    refine rn_ret Tryz.func59 (.inr (.inr (.inl ⟨_, _, _, rfl, rfl, loadVar_agg hT (cs := ints (heldS S ((pgS S).getD i.toNat 0))) (by rw [hlen]; rfl) ((hr4.set _).range (by simp))⟩))) ⟨?_, (hk1.tr0 hk14).setRow _ _ (.inr (Nat.le_refl _))⟩
    simp [readS, hb]
end E
end Go.Proofs.YtmplkogkphmmjagGreat

/- Pages that are handed over, and the contract of store.Check. -/
namespace Go.Proofs.YtmplkogkphmmjagGreat
set_option maxRecDepth 20000
set_option maxHeartbeats 4000000
namespace E
open Go.Proofs

abbrev Pg := Int × List Int
def pcell (p : Pg) : List Value := .int .i64 p.1 :: ints p.2
def pcells (l : List Pg) : List Value := l.flatMap pcell
theorem pcell_length {p : Pg} (h : p.2.length = 8) : (pcell p).length = 9 := by simp [pcell, ints_length, h]
theorem pcell_one (p : Pg) : ∀ u ∈ pcell p, u.oneCell' = true := by
  intro u hu
  rcases List.mem_cons.1 hu with rfl | hu
  · rfl
  · exact ints_one p.2 u hu

/-- A slice of pages, in blocks below B. -/
structure Pgs (B : Nat) (w : World) (v : Value) (ps : List Pg) : Prop where
  ex : ∃ a cap, v = .slice a ps.length cap ∧ (ps ≠ [] → ∃ b q, a = some ⟨b, q, none⟩ ∧ b < B ∧ w.rangeAt b q (pcells ps))
  wf : ∀ p ∈ ps, p.2.length = 8
  le : B ≤ w.heap.size

theorem Pgs.keep {B : Nat} {w w' : World} {v : Value} {ps : List Pg} {fp : List Nat} (h : Pgs B w v ps) (hk : Keep fp w w') (hn : ∀ k ∈ fp, B ≤ k) : Pgs B w' v ps := by
  obtain ⟨a, cap, hv, hm⟩ := h.ex
  refine ⟨⟨a, cap, hv, fun hne => ?_⟩, h.wf, Nat.le_trans h.le hk.size⟩
  obtain ⟨b, q, ha, hlt, hr⟩ := hm hne
  exact ⟨b, q, ha, hlt, hk.range hr (Nat.lt_of_lt_of_le hlt h.le) fun hm => by have := hn b hm; omega⟩
theorem Pgs.at {B : Nat} {w : World} {v : Value} {ps : List Pg} (h : Pgs B w v ps) {j : Nat} {p : Pg} (hp : ps[j]? = some p) :
    ∃ b q cap, v = .slice (some ⟨b, q, none⟩) ps.length cap ∧ b < B ∧ w.rangeAt b (q + j * 9) (pcell p) := by
  obtain ⟨a, cap, hv, hm⟩ := h.ex
  obtain ⟨b, q, ha, hlt, hr⟩ := hm (by intro e; simp [e] at hp)
  refine ⟨b, q, cap, by rw [hv, ha], hlt, range_sub hr (j * 9) ?_⟩
  rw [pcell_length (h.wf p (List.mem_of_getElem? hp))]
  exact flat_at (fun q hq => pcell_length (h.wf q hq)) hp

/-- The code of pages, behind these numbers. -/
def chkFrom (done : List Int) : List Pg → Int
  | [] => 0
  | p :: r => if hasP p.1 = false then 1 else if done.contains p.1 then 9 else chkFrom (done ++ [p.1]) r
def chk (ps : List Pg) : Int := chkFrom [] ps

def bools (l : List Bool) : List Value := l.map fun b => .bool b
theorem bools_length (l : List Bool) : (bools l).length = l.length := by simp [bools]
theorem bools_one (l : List Bool) : ∀ u ∈ bools l, u.oneCell' = true := by
  intro u hu
  simp only [bools, List.mem_map] at hu
  obtain ⟨x, _, rfl⟩ := hu
  rfl
theorem splice_bools (l : List Bool) (i : Nat) (b : Bool) (h : i < l.length) : splice (bools l) i [.bool b] = bools (l.set i b) := by
  rw [List.set_eq_take_append_cons_drop, if_pos h]
  simp [splice, bools, List.map_take, List.map_drop]

/-- Which of the pages are ahead. -/
def ahead (done : List Int) : List Bool := (List.range 14).map fun i => done.contains ((i : Nat) : Int)
theorem ahead_length (done : List Int) : (ahead done).length = 14 := by simp [ahead]
theorem ahead_set (done : List Int) {i : Int} (h : hasP i = true) : (ahead done).set i.toNat true = ahead (done ++ [i]) := by
  simp [hasP] at h
  apply List.ext_getElem
  · simp [ahead]
  · intro k h1 h2
    simp only [List.length_set, ahead_length] at h1
    simp only [List.getElem_set, ahead, List.getElem_map, List.getElem_range]
    by_cases e : i.toNat = k
    · have : i = (k : Int) := by omega
      simp [this]
    · have : ¬ ((k : Int) = i) := by omega
      simp [e, this]
theorem ahead_at (done : List Int) {i : Int} (h : hasP i = true) : (ahead done)[i.toNat]? = some (done.contains i) := by
  simp [hasP] at h
  rw [List.getElem?_eq_getElem (by rw [ahead_length]; omega)]
  simp only [ahead, List.getElem_map, List.getElem_range]
  rw [show ((i.toNat : Nat) : Int) = i by omega]

theorem zero_ahead : ((Tryz.prog.info? 55).bind (·.zero)).map (·.cells) = some (bools (List.replicate 14 false)).toArray := by kernel_rfl
theorem zero_page : ((Tryz.prog.info? 168).bind (·.zero)).map (·.cells) = some (pcell (0, List.replicate 8 0)).toArray := by kernel_rfl
theorem ahead_nil : ahead [] = List.replicate 14 false := by decide

theorem take_succ_map {ps : List Pg} {j : Nat} {p : Pg} (hp : ps[j]? = some p) : (ps.take (j + 1)).map (·.1) = (ps.take j).map (·.1) ++ [p.1] := by
  have hlt : j < ps.length := (List.getElem?_eq_some_iff.1 hp).1
  have hj : ps[j] = p := (List.getElem?_eq_some_iff.1 hp).2
  rw [List.take_succ_eq_append_getElem hlt, hj]
  simp
theorem drop_at {α : Type} {ps : List α} {j : Nat} {p : α} (hp : ps[j]? = some p) : ps.drop j = p :: ps.drop (j + 1) := by
  have hlt : j < ps.length := (List.getElem?_eq_some_iff.1 hp).1
  have hj : ps[j] = p := (List.getElem?_eq_some_iff.1 hp).2
  rw [List.drop_eq_getElem_cons hlt, hj]

theorem sCheck_ret {B : Nat} {w : World} {v : Value} {ps : List Pg} (h : Pgs B w v ps) (hlen : ps.length < 1000000) :
    Ret Tryz.prog 102 [v] w fun r w' => r = .int .i64 (chk ps) ∧ Keep [] w w' := by
  refine ret_of 24 Tryz.func102 rfl rfl (by simp) ?_
  refine au ?_
  refine pl_op rfl rfl (opTo_alloc _ rfl zero_ahead ?_)
  have hk1 : Keep [] w (w.alloc (.cells (bools (List.replicate 14 false)).toArray 55)) := (Keep.refl _ _).alloc _
  have ha1 := Blk.new w (bools (List.replicate 14 false)) 55
  rw [← ahead_nil] at ha1 hk1 ⊢
  generalize (w.alloc (.cells (bools (ahead [])).toArray 55)) = w1 at *
  refine au ?_
  obtain ⟨va, vcap, hv, _⟩ := h.ex
  refine pl_val (.int .i64 ps.length) rfl rfl (val_pure hT (by rw [hv]; rfl) w1) ?_
  refine au ?_
  refine rn_ind (fun m σ w' => ∃ j, m = ps.length - j ∧ j ≤ ps.length ∧ σ = [(3, .pointer (some ⟨w.heap.size, 0, none⟩)), (6, v), (7, .int .i64 ps.length), (8, .int .i64 (j : Nat))] ∧
      Keep [] w w' ∧ Blk w' w.heap.size (bools (ahead ((ps.take j).map (·.1)))) 55 ∧ chk ps = chkFrom ((ps.take j).map (·.1)) (ps.drop j))
    (ps.length - 0) _ ?_ ⟨0, rfl, Nat.zero_le _, rfl, hk1, by simpa using ha1, by simp [chk]⟩ ?_
  · exact ⟨rfl, rfl, rfl, rfl, trivial⟩
  clear hk1 ha1
  rintro m σ w2 ih ⟨j, hm, hj, rfl, hk2, ha2, hc⟩
  refine au ?_
  rcases Nat.lt_or_ge j ps.length with hlt | hge
  · refine pl_val (.bool true) rfl rfl (val_int .i64 _ _ _ rfl rfl rfl (by simp [intOp, hlt]) w2) ?_
    refine au ?_
    obtain ⟨p, hp⟩ : ∃ p, ps[j]? = some p := ⟨ps[j], List.getElem?_eq_getElem hlt⟩
    obtain ⟨b, q, cap, hv', hb, hr⟩ := (h.keep hk2 (by simp)).at hp
    have h8 := h.wf p (List.mem_of_getElem? hp)
    rw [drop_at hp, chkFrom] at hc
    refine pl_val _ rfl rfl (val_index j hT rfl (by rw [hv']; rfl) rfl rfl rfl hlt w2) ?_
    refine pl_val (.agg (pcell p).toArray) rfl rfl (val_load _ hT rfl rfl (by rw [pcell_length h8]; rfl) hr) ?_
    refine pl_op rfl rfl (opTo_alloc _ rfl zero_page ?_)
    have hk3 := hk2.alloc (.cells (pcell (0, List.replicate 8 0)).toArray 168)
    have hx3 := Blk.new w2 (pcell (0, List.replicate 8 0)) 168
    have ha3 := ha2.alloc (.cells (pcell (0, List.replicate 8 0)).toArray 168)
    have hn : w.heap.size ≠ w2.heap.size := by have := ha2.lt; omega
    have hsz := hk2.size
    generalize (w2.alloc (.cells (pcell (0, List.replicate 8 0)).toArray 168)) = w3 at *
    refine au ?_
    refine pl_op rfl rfl (opTo_store _ rfl rfl rfl rfl (by rw [pcell_length h8]; decide +kernel) hx3 (by rw [pcell_length h8]; decide) (pcell_one _) ?_)
    rw [splice_all (by rw [pcell_length h8]; rfl)]
    have hk4 := hk3.setRow w2.heap.size (pcell p).toArray (.inr hsz)
    have hx4 := hx3.set (pcell p)
    have ha4 := ha3.other (pcell p).toArray hn
    generalize (w3.setRow w2.heap.size (pcell p).toArray) = w4 at *
    refine au ?_
    refine pl_val (.int .i64 p.1) rfl rfl (val_load1 hT rfl rfl rfl (hx4.cell rfl)) ?_
    refine pl_op rfl rfl (opTo_call rfl rfl rfl rfl (by decide +kernel) ((hasP_ret p.1 _).mono ?_))
    rintro v' w5 ⟨rfl, rfl⟩
    cases hb : hasP p.1 with
    | false =>
      refine au ?_
      rw [if_pos hb] at hc
      exact rn_ret Tryz.func102 (.inl ⟨_, rfl, rfl⟩) ⟨by rw [hc], hk4⟩
    | true =>
      have hi : 0 ≤ p.1 ∧ p.1 < 14 := by simpa [hasP] using hb
      rw [if_neg (by simp [hb])] at hc
      refine au ?_
      refine pl_val (.int .i64 p.1) rfl rfl (val_load1 hT rfl rfl rfl (hx4.cell rfl)) ?_
      refine pl_val _ rfl rfl (val_indexArr p.1.toNat hT rfl rfl rfl rfl (by omega) (by omega) w5) ?_
      refine pl_val (.bool (((ps.take j).map (·.1)).contains p.1)) rfl rfl (val_load1 hT rfl rfl rfl (ha4.cell (by rw [Nat.zero_add, Nat.mul_one]; simp only [bools, List.getElem?_map, ahead_at _ hb]; rfl))) ?_
      cases hd : ((ps.take j).map (·.1)).contains p.1 with
      | true =>
        rw [hd, if_pos rfl] at hc
        refine au ?_
        exact rn_ret Tryz.func102 (.inl ⟨_, rfl, rfl⟩) ⟨by rw [hc], hk4⟩
      | false =>
        rw [hd, if_neg (by simp)] at hc
        refine au ?_
        refine pl_val (.int .i64 p.1) rfl rfl (val_load1 hT rfl rfl rfl (hx4.cell rfl)) ?_
        refine pl_val _ rfl rfl (val_indexArr p.1.toNat hT rfl rfl rfl rfl (by omega) (by omega) w5) ?_
        refine pl_op rfl rfl (opTo_store [.bool true] rfl rfl rfl rfl (by decide +kernel) ha4 (by rw [bools_length, ahead_length]; simp; omega) (by simp; rfl) ?_)
        have e6 : splice (bools (ahead ((ps.take j).map (·.1)))) (0 + p.1.toNat * 1) [.bool true] = bools (ahead ((ps.take (j + 1)).map (·.1))) := by
          rw [Nat.zero_add, Nat.mul_one, splice_bools _ _ _ (by rw [ahead_length]; omega), ahead_set _ hb, ← take_succ_map hp]
        rw [e6]
        have hk6 := hk4.setRow w.heap.size (bools (ahead ((ps.take (j + 1)).map (·.1)))).toArray (.inr (Nat.le_refl _))
        have ha6 := ha4.set (bools (ahead ((ps.take (j + 1)).map (·.1))))
        generalize (w5.setRow w.heap.size (bools (ahead ((ps.take (j + 1)).map (·.1)))).toArray) = w6 at *
        refine au ?_
        refine pl_val (.int .i64 ((j + 1 : Nat) : Int)) rfl rfl (val_int .i64 j 1 _ rfl rfl rfl (by simp only [intOp]; rw [wrap_i64 (by omega) (by omega)]; rfl) w6) ?_
        refine au ?_
        refine rn_sub ?_ (ih (ps.length - (j + 1)) _ w6 (by omega) ⟨j + 1, rfl, hlt, rfl, hk6, ha6, by rw [take_succ_map hp]; exact hc⟩)
        exact ⟨rfl, rfl, rfl, rfl, trivial⟩
  · refine pl_val (.bool false) rfl rfl (val_int .i64 _ _ _ rfl rfl rfl (by simp [intOp]; omega) w2) ?_
    refine au ?_
    refine rn_ret Tryz.func102 (.inl ⟨_, rfl, rfl⟩) ⟨?_, hk2⟩
    rw [hc, List.drop_eq_nil_of_le hge]
    rfl
end E
end Go.Proofs.YtmplkogkphmmjagGreat

/- A commit in memory; the contracts of its take, write and flush. -/
namespace Go.Proofs.YtmplkogkphmmjagGreat
set_option maxRecDepth 20000
set_option maxHeartbeats 4000000
namespace E
open Go.Proofs

/-- A deed: a write, or a flush. -/
abbrev Deed := Option (Int × List Int)

def ccells (s : Nat) (N : List Int) (K : List Bool) (dv : Value) : List Value := [Value.pointer (some ⟨s, 0, none⟩)] ++ ints N ++ (bools K ++ [dv])

/-- The types of what changes while a commit is made and done. -/
def mutT (e : Nat) : Bool := e == 173 || e == 1 || e == 113 || e == 153

/-- Blocks below B stay, and so do those of other types. -/
structure Tch (B : Nat) (w w' : World) : Prop where
  os : w'.os = w.os
  tape : w'.tape = w.tape
  output : w'.output = w.output
  size : w.heap.size ≤ w'.heap.size
  low : ∀ k, k < B → w'.heap[k]? = w.heap[k]?
  typ : ∀ k L e, Blk w k L e → mutT e = false → Blk w' k L e

theorem Tch.refl (B : Nat) (w : World) : Tch B w w := ⟨rfl, rfl, rfl, Nat.le_refl _, fun _ _ => rfl, fun _ _ _ h _ => h⟩
theorem Tch.trans {B : Nat} {w w' w'' : World} (h : Tch B w w') (h' : Tch B w' w'') : Tch B w w'' :=
  ⟨h'.os.trans h.os, h'.tape.trans h.tape, h'.output.trans h.output, Nat.le_trans h.size h'.size, fun k hk => (h'.low k hk).trans (h.low k hk), fun k L e hb he => h'.typ k L e (h.typ k L e hb he) he⟩
theorem Keep.tch {B : Nat} {w w' : World} {fp : List Nat} (h : Keep fp w w') (hB : B ≤ w.heap.size) (hf : ∀ k ∈ fp, B ≤ k ∧ ∀ L e, Blk w k L e → mutT e = true) : Tch B w w' :=
  ⟨h.os, h.tape, h.output, h.size, fun k hk => h.block k (Nat.lt_of_lt_of_le hk hB) fun hm => by have := (hf k hm).1; omega, fun k L e hb he => h.blk hb fun hm => by
    rw [(hf k hm).2 L e hb] at he; cases he⟩
theorem Keep.tch0 {B : Nat} {w w' : World} (h : Keep [] w w') (hB : B ≤ w.heap.size) : Tch B w w' := h.tch hB (by simp)
theorem Tch.keep {B : Nat} {w0 w w' : World} (h0 : Keep [] w0 w) (h : Tch B w w') (hB : w0.heap.size ≤ B) : Keep [] w0 w' :=
  ⟨h.os.trans h0.os, h.tape.trans h0.tape, h.output.trans h0.output, Nat.le_trans h0.size h.size, fun k hk _ => (h.low k (Nat.lt_of_lt_of_le hk hB)).trans (h0.block k hk (by simp))⟩

def DeedV (w : World) (c : Nat) (fv : Value) : Deed → Prop
  | none => ∃ x, fv = .func (.func 115) #[] #[.pointer (some ⟨x, 0, none⟩)] ∧ Blk w x [.pointer (some ⟨c, 0, none⟩)] 165
  | some (a, ws) => ∃ x y z, fv = .func (.func 117) #[] #[.pointer (some ⟨x, 0, none⟩), .pointer (some ⟨y, 0, none⟩), .pointer (some ⟨z, 0, none⟩)] ∧
      Blk w x [.pointer (some ⟨c, 0, none⟩)] 165 ∧ Blk w y [.int .i64 a] 2 ∧ Blk w z (ints ws) 109 ∧ ws.length = 8

theorem DeedV.tch {B : Nat} {w w' : World} {c : Nat} {fv : Value} {d : Deed} (h : DeedV w c fv d) (hk : Tch B w w') : DeedV w' c fv d := by
  cases d with
  | none =>
    obtain ⟨x, h1, h2⟩ := h
    exact ⟨x, h1, hk.typ _ _ _ h2 (by decide)⟩
  | some p =>
    obtain ⟨x, y, z, h1, h2, h3, h4, h5⟩ := h
    exact ⟨x, y, z, h1, hk.typ _ _ _ h2 (by decide), hk.typ _ _ _ h3 (by decide), hk.typ _ _ _ h4 (by decide), h5⟩
theorem DeedV.one {w : World} {c : Nat} {fv : Value} {d : Deed} (h : DeedV w c fv d) : fv.oneCell' = true := by
  cases d with
  | none => obtain ⟨x, rfl, _⟩ := h; rfl
  | some p => obtain ⟨x, y, z, rfl, _⟩ := h; rfl

def Fvs (w : World) (c : Nat) (fvs : List Value) (D : List Deed) : Prop := ∀ (j : Nat) (d : Deed), D[j]? = some d → ∃ fv, fvs[j]? = some fv ∧ DeedV w c fv d

structure ComV (B : Nat) (w : World) (c s : Nat) (N : List Int) (K : List Bool) (dv : Value) (fvs : List Value) (D : List Deed) : Prop where
  blk : Blk w c (ccells s N K dv) 173
  base : B ≤ c
  nlen : N.length = 17
  klen : K.length = 34
  own : Own w B 1 1 dv D.length fvs
  fs : Fvs w c fvs D

theorem Own.typ {w : World} {B e size n : Nat} {v : Value} {xs : List Value} (h : Own w B e size v n xs) : ∀ k ∈ v.ownBlock.toList, ∃ L, Blk w k L e := by
  intro k hk
  rcases h.2 with ⟨rfl, _⟩ | ⟨g, cap, cur, rfl, hb, hg, _⟩
  · simp [Value.ownBlock] at hk
  · simp [Value.ownBlock] at hk
    subst hk
    exact ⟨cur, hg⟩
theorem blk_typ {w : World} {k : Nat} {L L' : List Value} {e e' : TypeId} (h : Blk w k L e) (h' : Blk w k L' e') : e = e' := by
  by_cases he : e = e'
  · exact he
  · exact absurd rfl (Blk.ne h h' he)

theorem splice_mid (A M C vs : List Value) (i : Nat) (h : i + vs.length ≤ M.length) : splice (A ++ M ++ C) (A.length + i) vs = A ++ splice M i vs ++ C := by
  unfold splice
  have e1 : (A ++ M ++ C).take (A.length + i) = A ++ M.take i := by
    rw [List.append_assoc, List.take_length_add_append, List.take_append_of_le_length (by omega)]
  have e2 : (A ++ M ++ C).drop (A.length + i + vs.length) = M.drop (i + vs.length) ++ C := by
    rw [List.append_assoc, Nat.add_assoc, List.drop_length_add_append, List.drop_append_of_le_length (by omega)]
  rw [e1, e2]
  simp [List.append_assoc]

theorem splice_ints (l : List Int) (i : Nat) (x : Int) (h : i < l.length) : splice (ints l) i [.int .i64 x] = ints (l.set i x) := by
  rw [List.set_eq_take_append_cons_drop, if_pos h]
  simp [splice, ints, List.map_take, List.map_drop]

section
variable {B : Nat} {w w' : World} {c s : Nat} {N : List Int} {K : List Bool} {dv : Value} {fvs : List Value} {D : List Deed}

theorem ccells_length (hN : N.length = 17) (hK : K.length = 34) : (ccells s N K dv).length = 53 := by simp [ccells, ints_length, bools_length, hN, hK]
theorem ccells_setN (i : Nat) (x : Int) (h : i < N.length) : splice (ccells s N K dv) (1 + i) [.int .i64 x] = ccells s (N.set i x) K dv := by
  unfold ccells
  have := splice_mid [Value.pointer (some ⟨s, 0, none⟩)] (ints N) (bools K ++ [dv]) [.int .i64 x] i (by simp [ints_length]; omega)
  rw [splice_ints _ _ _ h] at this
  exact this
theorem ccells_setK (hN : N.length = 17) (i : Nat) (b : Bool) (h : i < K.length) : splice (ccells s N K dv) (18 + i) [.bool b] = ccells s N (K.set i b) dv := by
  unfold ccells
  have := splice_mid ([Value.pointer (some ⟨s, 0, none⟩)] ++ ints N) (bools K) [dv] [.bool b] i (by simp [bools_length]; omega)
  rw [splice_bools _ _ _ h] at this
  simpa [ints_length, hN, List.append_assoc] using this
theorem ccells_setD (hN : N.length = 17) (hK : K.length = 34) (dv' : Value) : splice (ccells s N K dv) 52 [dv'] = ccells s N K dv' := by
  unfold ccells
  have := splice_mid ([Value.pointer (some ⟨s, 0, none⟩)] ++ ints N ++ bools K) [dv] [] [dv'] 0 (by simp)
  have e : splice [dv] 0 [dv'] = [dv'] := rfl
  rw [e] at this
  simpa [ints_length, bools_length, hN, hK, List.append_assoc] using this

theorem ComV.cellS (h : ComV B w c s N K dv fvs D) : w.cell? ⟨c, 0, none⟩ = some (.pointer (some ⟨s, 0, none⟩)) := h.blk.cell rfl
theorem ComV.cellN (h : ComV B w c s N K dv fvs D) {i : Nat} {x : Int} (hx : N[i]? = some x) : w.cell? ⟨c, 1 + i, none⟩ = some (.int .i64 x) := h.blk.cell (by
  have hlt : i < N.length := (List.getElem?_eq_some_iff.1 hx).1
  have hx2 := (List.getElem?_eq_some_iff.1 hx).2
  simp only [ccells]
  rw [List.getElem?_append_left (by simp [ints_length]; omega), List.getElem?_append_right (by simp)]
  simp [ints, hx])
theorem ComV.cellK (h : ComV B w c s N K dv fvs D) {i : Nat} {x : Bool} (hx : K[i]? = some x) : w.cell? ⟨c, 18 + i, none⟩ = some (.bool x) := h.blk.cell (by
  have hlt : i < K.length := (List.getElem?_eq_some_iff.1 hx).1
  simp only [ccells]
  rw [List.getElem?_append_right (by simp [ints_length, h.nlen]), List.getElem?_append_left (by simp [ints_length, bools_length, h.nlen]; omega)]
  simp [ints_length, h.nlen, bools, hx])
theorem ComV.cellD (h : ComV B w c s N K dv fvs D) : w.cell? ⟨c, 52, none⟩ = some dv := h.blk.cell (by
  simp only [ccells]
  rw [List.getElem?_append_right (by simp [ints_length, h.nlen]), List.getElem?_append_right (by simp [ints_length, bools_length, h.nlen, h.klen])]
  simp [ints_length, bools_length, h.nlen, h.klen])
theorem ComV.rangeN (h : ComV B w c s N K dv fvs D) (i m : Nat) (him : i + m ≤ 17) : w.rangeAt c (1 + i) (ints ((N.drop i).take m)) := h.blk.range (by
  have h17 := h.nlen
  rw [ints_length, List.length_take, List.length_drop, h17, Nat.min_eq_left (by omega)]
  simp only [ccells]
  rw [List.drop_append_of_le_length (by simp [ints_length, h17]; omega), List.take_append_of_le_length (by simp [ints_length, h17]; omega), Nat.add_comm 1 i]
  simp [ints, List.map_take, List.map_drop])

theorem ComV.notDv (h : ComV B w c s N K dv fvs D) : ∀ k, dv.ownBlock = some k → k ≠ c := fun k hk e => by
  obtain ⟨L, hL⟩ := h.own.typ k (by simp [hk])
  subst e
  exact absurd (blk_typ hL h.blk) (by decide)

/-- What does not turn the commit leaves it as it is. -/
theorem ComV.keep {fp : List Nat} (h : ComV B w c s N K dv fvs D) (hk : Keep fp w w') (hf : ∀ k ∈ fp, ∀ L e, Blk w k L e → e = 113 ∨ e = 153) : ComV B w' c s N K dv fvs D := by
  refine ⟨hk.blk h.blk fun hm => ?_, h.base, h.nlen, h.klen, h.own.keep hk fun k e hm => ?_, fun j d hd => ?_⟩
  · have := hf c hm _ _ h.blk
    revert this; decide
  · obtain ⟨L, hL⟩ := h.own.typ k (by simp [e])
    have := hf k hm _ _ hL
    revert this; decide
  · obtain ⟨fv, h1, h2⟩ := h.fs j d hd
    refine ⟨fv, h1, ?_⟩
    have ht : Tch 0 w w' := hk.tch (Nat.zero_le _) fun k hm => ⟨Nat.zero_le _, fun L e hb => by
      rcases hf k hm L e hb with rfl | rfl <;> decide⟩
    exact h2.tch ht
theorem ComV.keep0 (h : ComV B w c s N K dv fvs D) (hk : Keep [] w w') : ComV B w' c s N K dv fvs D := h.keep hk (by simp)

/-- Another state, other sectors that are taken. -/
theorem ComV.put (h : ComV B w c s N K dv fvs D) (N' : List Int) (K' : List Bool) (hN : N'.length = 17) (hK : K'.length = 34) :
    ComV B (w.setRow c (ccells s N' K' dv).toArray) c s N' K' dv fvs D ∧ Tch B w (w.setRow c (ccells s N' K' dv).toArray) ∧ Keep [c] w (w.setRow c (ccells s N' K' dv).toArray) := by
  have hk : Keep [c] w (w.setRow c (ccells s N' K' dv).toArray) := (Keep.refl _ _).setRow _ _ (.inl (by simp))
  have hB : B ≤ w.heap.size := Nat.le_trans h.base (Nat.le_of_lt h.blk.lt)
  have ht : Tch B w (w.setRow c (ccells s N' K' dv).toArray) := hk.tch hB fun k hm => by
    simp at hm
    subst hm
    exact ⟨h.base, fun L e hb => by rw [blk_typ hb h.blk]; decide⟩
  refine ⟨⟨h.blk.set _, h.base, hN, hK, h.own.keep hk fun k e => by simpa using h.notDv k e, fun j d hd => ?_⟩, ht, hk⟩
  obtain ⟨fv, h1, h2⟩ := h.fs j d hd
  exact ⟨fv, h1, h2.tch ht⟩
end

def takeK (K : List Bool) (a : Int) : List Bool := if hasB a then K.set a.toNat true else K
theorem takeK_length (K : List Bool) (a : Int) : (takeK K a).length = K.length := by unfold takeK; split <;> simp

theorem take_ret {B : Nat} {w : World} {c s : Nat} {N : List Int} {K : List Bool} {dv : Value} {fvs : List Value} {D : List Deed} (h : ComV B w c s N K dv fvs D) (a : Int) :
    Ret Tryz.prog 112 [.pointer (some ⟨c, 0, none⟩), .int .i64 a] w fun v w' => v = .tuple #[] ∧ ComV B w' c s N (takeK K a) dv fvs D ∧ Tch B w w' := by
  refine ret_of 11 Tryz.func112 rfl rfl (by simp) ?_
  refine au ?_
  refine pl_op rfl rfl (opTo_call rfl rfl rfl rfl (by decide +kernel) ((dHas_ret a _).mono ?_))
  rintro v w1 ⟨rfl, rfl⟩
  cases hb : hasB a with
  | false =>
    refine au ?_
    exact rn_end Tryz.func112 (.inr (.inl ⟨rfl, rfl⟩)) ⟨rfl, by rw [takeK, hb]; exact h, Tch.refl _ _⟩
  | true =>
    have hi : 0 ≤ a ∧ a < 34 := by simpa [hasB] using hb
    refine au ?_
    refine pl_val _ rfl rfl (val_indexArr a.toNat hT rfl rfl rfl rfl (by omega) (by omega) w1) ?_
    refine pl_op rfl rfl (opTo_store [.bool true] rfl rfl rfl rfl (by decide +kernel) h.blk (by rw [ccells_length h.nlen h.klen]; simp; omega) (by simp; rfl) ?_)
    have e : splice (ccells s N K dv) (0 + 18 + a.toNat * 1) [.bool true] = ccells s N (takeK K a) dv := by
      rw [Nat.zero_add, Nat.mul_one, ccells_setK h.nlen _ _ (by rw [h.klen]; omega), takeK, hb]
      rfl
    rw [e]
    refine au ?_
    obtain ⟨h1, h2, _⟩ := h.put N (takeK K a) h.nlen (by rw [takeK_length, h.klen])
    exact rn_end Tryz.func112 (.inr (.inl ⟨rfl, rfl⟩)) ⟨rfl, h1, h2⟩
end E
end Go.Proofs.YtmplkogkphmmjagGreat

/- The contracts of a commit's write, flush, lay, and of store.first. -/
namespace Go.Proofs.YtmplkogkphmmjagGreat
set_option maxRecDepth 20000
set_option maxHeartbeats 4000000
namespace E
open Go.Proofs

theorem lay1_ret {B : Nat} {w : World} {c s x : Nat} {N : List Int} {K : List Bool} {dv : Value} {fvs : List Value} {D : List Deed} (h : ComV B w c s N K dv fvs D) (hx : Blk w x [.pointer (some ⟨c, 0, none⟩)] 165) (j : Nat) (hj : j < 34) :
    Ret Tryz.prog 114 [.int .i64 (j : Nat), .pointer (some ⟨x, 0, none⟩)] w fun v w' => v = .bool (!K.getD j false) ∧ w' = w := by
  refine ret_of 11 Tryz.func114 rfl rfl (by simp) ?_
  refine au ?_
  refine pl_val (.pointer (some ⟨c, 0, none⟩)) rfl rfl (val_load1 hT rfl rfl rfl (hx.cell rfl)) ?_
  refine au ?_
  refine pl_val _ rfl rfl (val_indexArr j hT rfl rfl rfl rfl rfl hj w) ?_
  have hc := h.cellK (i := j) (x := K.getD j false) (by rw [List.getD_eq_getElem?_getD, List.getElem?_eq_getElem (by rw [h.klen]; exact hj)]; rfl)
  refine pl_val (.bool (K.getD j false)) rfl rfl (val_load1 hT rfl rfl rfl (by rw [Nat.zero_add, Nat.mul_one]; exact hc)) ?_
  refine au ?_
  exact rn_ret Tryz.func114 (.inl ⟨_, rfl, rfl⟩) ⟨rfl, rfl⟩

def firstOf (f : Nat → Bool) : Nat := ((List.range 34).find? f).getD 0

theorem firstOf_some {f : Nat → Bool} {j : Nat} (hj : j < 34) (h : ∀ k, k < j → f k = false) (hf : f j = true) : firstOf f = j := by
  have : (List.range 34).find? f = some j := by
    rw [List.find?_range_eq_some]
    exact ⟨hf, List.mem_range.2 hj, fun k hk => by simp [h k hk]⟩
  simp [firstOf, this]
theorem firstOf_none {f : Nat → Bool} (h : ∀ k, k < 34 → f k = false) : firstOf f = 0 := by
  have : (List.range 34).find? f = none := by
    rw [List.find?_eq_none]
    intro k hk
    simp [h k (List.mem_range.1 hk)]
  simp [firstOf, this]

theorem first_ret {w : World} (f : Nat → Bool) (g : Nat) (cap : List Value) (hg : callable Tryz.prog g = true) (hclo : ∀ j, j < 34 → Ret Tryz.prog g (.int .i64 (j : Nat) :: cap) w fun v w' => v = .bool (f j) ∧ w' = w) :
    Ret Tryz.prog 113 [.func (.func g) #[] cap.toArray] w fun v w' => v = .int .i64 (firstOf f : Nat) ∧ w' = w := by
  refine ret_of 12 Tryz.func113 rfl rfl (by simp) ?_
  refine au ?_
  refine rn_ind (fun m σ w' => ∃ j, m = 34 - j ∧ j ≤ 34 ∧ σ = [(0, .func (.func g) #[] cap.toArray), (4, .int .i64 (j : Nat))] ∧ w' = w ∧ ∀ k, k < j → f k = false)
    (34 - 0) _ ?_ ⟨0, rfl, by decide, rfl, rfl, by simp⟩ ?_
  · exact ⟨rfl, rfl, trivial⟩
  rintro m σ w2 ih ⟨j, hm, hj, rfl, rfl, hno⟩
  refine au ?_
  rcases Nat.lt_or_ge j 34 with hlt | hge
  · refine pl_val (.bool true) rfl rfl (val_int .i64 _ _ _ rfl rfl rfl (by simp [intOp]; omega) w2) ?_
    refine au ?_
    refine pl_op rfl rfl (opTo_call rfl rfl rfl rfl hg ((hclo j hlt).mono ?_))
    rintro v w3 ⟨rfl, rfl⟩
    cases hf : f j with
    | true =>
      refine au ?_
      exact rn_ret Tryz.func113 (.inl ⟨_, rfl, rfl⟩) ⟨by rw [firstOf_some hlt hno hf], rfl⟩
    | false =>
      refine au ?_
      refine pl_val (.int .i64 ((j + 1 : Nat) : Int)) rfl rfl (val_int .i64 j 1 _ rfl rfl rfl (by simp only [intOp]; rw [wrap_i64 (by omega) (by omega)]; rfl) w3) ?_
      refine au ?_
      refine rn_sub ?_ (ih (34 - (j + 1)) _ w3 (by omega) ⟨j + 1, rfl, hlt, rfl, rfl, fun k hk => ?_⟩)
      · exact ⟨rfl, rfl, trivial⟩
      · rcases Nat.lt_or_ge k j with h | h
        · exact hno k h
        · have : k = j := by omega
          rw [this]; exact hf
  · refine pl_val (.bool false) rfl rfl (val_int .i64 _ _ _ rfl rfl rfl (by simp [intOp]; omega) w2) ?_
    refine au ?_
    exact rn_ret Tryz.func113 (.inl ⟨_, rfl, rfl⟩) ⟨by rw [firstOf_none fun k hk => hno k (by omega)]; rfl, rfl⟩

theorem ccells_atD {s : Nat} {N : List Int} {K : List Bool} {dv : Value} (hN : N.length = 17) (hK : K.length = 34) : (ccells s N K dv)[0 + 52]? = some dv := by
  simp only [ccells]
  rw [List.getElem?_append_right (by simp [ints_length, hN]), List.getElem?_append_right (by simp [ints_length, bools_length, hN, hK])]
  simp [ints_length, bools_length, hN, hK]

/-- The append of a deed alone. -/
theorem ComV.app1 {B : Nat} {w w1 : World} {c s g : Nat} {N : List Int} {K : List Bool} {dv : Value} {fvs : List Value} {D : List Deed} (h : ComV B w c s N K dv fvs D)
    (hor : (dv.ownBlock = some g ∧ D.length + 1 ≤ capOf dv ∧ Keep [g] w w1) ∨ (g = w.heap.size ∧ Keep [] w w1 ∧ w1.heap.size = w.heap.size + 1)) : Tch B w w1 := by
  have hB : B ≤ w.heap.size := Nat.le_trans h.base (Nat.le_of_lt h.blk.lt)
  rcases hor with ⟨e, _, hk⟩ | ⟨e, hk, _⟩
  · refine hk.tch hB fun k hm => ?_
    simp at hm
    subst hm
    obtain ⟨L, hL⟩ := h.own.typ k (by simp [e])
    exact ⟨(h.own.lt k e).1, fun L' e' hb => by rw [blk_typ hb hL]; decide⟩
  · exact hk.tch0 hB

/-- What an append of one deed leaves: the commit with it. -/
theorem ComV.app {B : Nat} {w w1 : World} {c s g cap : Nat} {N : List Int} {K : List Bool} {dv fv : Value} {fvs : List Value} {D : List Deed} {d : Deed} (h : ComV B w c s N K dv fvs D) (hd : DeedV w c fv d)
    (hown : Own w1 B 1 1 (.slice (some ⟨g, 0, none⟩) (D.length + 1) cap) (D.length + 1) (fvs ++ [fv]))
    (hor : (dv.ownBlock = some g ∧ D.length + 1 ≤ capOf dv ∧ Keep [g] w w1) ∨ (g = w.heap.size ∧ Keep [] w w1 ∧ w1.heap.size = w.heap.size + 1)) :
    Blk w1 c (ccells s N K dv) 173 ∧ ComV B (w1.setRow c (ccells s N K (.slice (some ⟨g, 0, none⟩) (D.length + 1) cap)).toArray) c s N K (.slice (some ⟨g, 0, none⟩) (D.length + 1) cap) (fvs ++ [fv]) (D ++ [d]) ∧
      Tch B w (w1.setRow c (ccells s N K (.slice (some ⟨g, 0, none⟩) (D.length + 1) cap)).toArray) := by
  have hB : B ≤ w.heap.size := Nat.le_trans h.base (Nat.le_of_lt h.blk.lt)
  obtain ⟨hk, ht1⟩ : Keep [g] w w1 ∧ Tch B w w1 := by
    rcases hor with ⟨e, _, hk⟩ | ⟨e, hk, _⟩
    · refine ⟨hk, hk.tch hB fun k hm => ?_⟩
      simp at hm
      subst hm
      obtain ⟨L, hL⟩ := h.own.typ k (by simp [e])
      exact ⟨(h.own.lt k e).1, fun L' e' hb => by rw [blk_typ hb hL]; decide⟩
    · exact ⟨hk.of0, hk.tch0 hB⟩
  have hcg : c ≠ g := by
    rcases hor with ⟨e, _, _⟩ | ⟨e, _, _⟩
    · exact fun h' => h.notDv g e h'.symm
    · have := h.blk.lt; omega
  have hb1 : Blk w1 c (ccells s N K dv) 173 := hk.blk h.blk (by simpa using hcg)
  have hk2 : Keep [c] w1 (w1.setRow c (ccells s N K (.slice (some ⟨g, 0, none⟩) (D.length + 1) cap)).toArray) := (Keep.refl _ _).setRow _ _ (.inl (by simp))
  have ht2 : Tch B w1 (w1.setRow c (ccells s N K (.slice (some ⟨g, 0, none⟩) (D.length + 1) cap)).toArray) := hk2.tch (Nat.le_trans hB hk.size) fun k hm => by
    simp at hm
    subst hm
    exact ⟨h.base, fun L e hb => by rw [blk_typ hb hb1]; decide⟩
  refine ⟨hb1, ⟨hb1.set _, h.base, h.nlen, h.klen, ?_, ?_⟩, ht1.trans ht2⟩
  · have := hown.keep hk2 (fun k e => by simp [Value.ownBlock] at e; subst e; simpa using Ne.symm hcg)
    simpa using this
  · intro j d' hj
    have hlen : fvs.length = D.length := by simpa using h.own.1
    rcases Nat.lt_or_ge j D.length with hlt | hge
    · rw [List.getElem?_append_left hlt] at hj
      obtain ⟨fv', h1, h2⟩ := h.fs j d' hj
      exact ⟨fv', by rw [List.getElem?_append_left (by omega)]; exact h1, (h2.tch ht1).tch ht2⟩
    · rw [List.getElem?_append_right hge] at hj
      have h0 : j - D.length = 0 := by
        rcases Nat.eq_zero_or_pos (j - D.length) with h0 | h0
        · exact h0
        · rw [List.getElem?_eq_none (by simp; omega)] at hj; cases hj
      rw [h0] at hj
      simp at hj
      subst hj
      exact ⟨fv, by rw [List.getElem?_append_right (by omega), hlen, h0]; rfl, (hd.tch ht1).tch ht2⟩

theorem slice_deed (fv : Value) (h : fv.oneCell' = true) : sliceCells Tryz.prog 171 1 [(0, fv)] = some (1, [fv].toArray) := by
  cases fv <;> first | (cases h; done) | kernel_rfl

theorem cflush_ret {B : Nat} {w : World} {c s : Nat} {N : List Int} {K : List Bool} {dv : Value} {fvs : List Value} {D : List Deed} (h : ComV B w c s N K dv fvs D) (hD : D.length < 1000) :
    Ret Tryz.prog 106 [.pointer (some ⟨c, 0, none⟩)] w fun v w' => v = .tuple #[] ∧ (∃ dv' fvs', ComV B w' c s N K dv' fvs' (D ++ [none])) ∧ Tch B w w' := by
  refine ret_of 12 Tryz.func106 rfl rfl (by simp) ?_
  refine au ?_
  refine pl_op rfl rfl (opTo_box [.pointer (some ⟨c, 0, none⟩)] rfl rfl rfl ?_)
  have hB : B ≤ w.heap.size := Nat.le_trans h.base (Nat.le_of_lt h.blk.lt)
  have hk1 : Keep [] w (w.alloc (.cells [Value.pointer (some ⟨c, 0, none⟩)].toArray 165)) := (Keep.refl _ _).alloc _
  have hx1 := Blk.new w [Value.pointer (some ⟨c, 0, none⟩)] 165
  have ht1 := hk1.tch0 hB
  have h1 := h.keep0 hk1
  generalize (w.alloc (.cells [Value.pointer (some ⟨c, 0, none⟩)].toArray 165)) = w1 at *
  have hB1 : B ≤ w1.heap.size := Nat.le_trans hB ht1.size
  generalize w.heap.size = x at hx1
  refine au ?_
  have hS0 : Blk w1.drew x [.pointer (some ⟨c, 0, none⟩)] 165 ∧ Blk w1.drew c (ccells s N K dv) 173 := ⟨hx1, h1.blk⟩
  have hcd : ∀ w', Blk w' c (ccells s N K dv) 173 → w'.cell? ⟨c, 0 + 52, none⟩ = some dv := fun w' hb => hb.cell (ccells_atD h.nlen h.klen)
  refine rn_draw (fun w' => Blk w' x [.pointer (some ⟨c, 0, none⟩)] 165 ∧ Blk w' c (ccells s N K dv) 173) [10] hMix ?_
  refine dr_val 0 (.pointer (some ⟨c, 0, none⟩)) rfl (by decide +kernel) rfl rfl (fun w' hk => val_load1 hT rfl rfl rfl (hk.1.cell rfl)) hS0 ?_
  refine dr_val 1 (.pointer (some ⟨c, 0, none⟩)) rfl (by decide +kernel) rfl rfl (fun w' hk => val_load1 hT rfl rfl rfl (hk.1.cell rfl)) hS0 ?_
  refine tk 2 ?_
  refine tk 3 ?_
  refine dr_val 4 dv rfl (by decide +kernel) rfl rfl (fun w' hk => val_load1 hT rfl rfl rfl (hcd w' hk.2)) hS0 ?_
  refine tk 5 ?_
  refine dr_op 6 rfl (by decide +kernel) rfl rfl (opTo_buildSlice _ [_] rfl rfl (slice_deed _ rfl) ⟨fun _ => ⟨hS0.1.alloc _, hS0.2.alloc _⟩, ?_⟩)
  have hk2 := ((Keep.refl [] w1).drew).alloc (.cells [Value.func (.func 115) #[] #[.pointer (some ⟨x, 0, none⟩)]].toArray 1)
  have hy2 := Blk.new w1.drew [Value.func (.func 115) #[] #[.pointer (some ⟨x, 0, none⟩)]] 1
  have h2 := h1.keep0 hk2
  have hx2 := hk2.blk hx1 (by simp)
  have ht2 := hk2.tch0 hB1
  have hB2 : B ≤ (w1.drew.alloc (.cells [Value.func (.func 115) #[] #[.pointer (some ⟨x, 0, none⟩)]].toArray 1)).heap.size := Nat.le_trans hB1 ht2.size
  have hd : DeedV (w1.drew.alloc (.cells [Value.func (.func 115) #[] #[.pointer (some ⟨x, 0, none⟩)]].toArray 1)) c (Value.func (.func 115) #[] #[.pointer (some ⟨x, 0, none⟩)]) none := ⟨x, rfl, hx2⟩
  refine dr_op 7 rfl (by decide +kernel) rfl rfl (opTo_app B 1 1 8 fvs [Value.func (.func 115) #[] #[.pointer (some ⟨x, 0, none⟩)]] rfl rfl rfl (by decide +kernel) h2.own (hy2.range rfl) rfl (by simp; rfl) (by decide) (by unfold maxLen; omega) (by omega) hB2 ?_)
  intro g cap w3 hown hor
  obtain ⟨hb3, h4, ht4⟩ := h2.app hd hown hor
  have ht3 := h2.app1 hor
  refine ⟨fun _ => ⟨ht3.typ _ _ _ hx2 (by decide), hb3⟩, ?_⟩
  refine tk 8 ?_
  refine tk 9 ?_
  refine dr_op 10 rfl (by decide +kernel) rfl rfl (opTo_store _ rfl rfl rfl rfl (by kernel_rfl) hb3 (by rw [ccells_length h.nlen h.klen]; simp) (by simp; rfl) ⟨fun hn => absurd (by simp) hn, ?_⟩)
  rw [show splice (ccells s N K dv) (0 + 52) [Value.slice (some ⟨g, 0, none⟩) (D.length + 1) cap] = ccells s N K (.slice (some ⟨g, 0, none⟩) (D.length + 1) cap) from ccells_setD h.nlen h.klen _]
  refine dr_done (by decide +kernel) ?_
  exact rn_end Tryz.func106 (.inr (.inl ⟨rfl, rfl⟩)) ⟨rfl, ⟨_, _, h4⟩, (ht1.trans ht2).trans ht4⟩

theorem cwrite_ret {B : Nat} {w : World} {c s : Nat} {N : List Int} {K : List Bool} {dv : Value} {fvs : List Value} {D : List Deed} (h : ComV B w c s N K dv fvs D) (hD : D.length < 1000) (a : Int) {ws : List Int} (hw : ws.length = 8) :
    Ret Tryz.prog 107 [.pointer (some ⟨c, 0, none⟩), .int .i64 a, .agg (ints ws).toArray] w fun v w' => v = .tuple #[] ∧ (∃ dv' fvs', ComV B w' c s N K dv' fvs' (D ++ [some (a, ws)])) ∧ Tch B w w' := by
  refine ret_of 16 Tryz.func107 rfl rfl (by simp) ?_
  refine au ?_
  refine pl_op rfl rfl (opTo_box [.pointer (some ⟨c, 0, none⟩)] rfl rfl rfl ?_)
  refine pl_op rfl rfl (opTo_box [.int .i64 a] rfl rfl rfl ?_)
  refine pl_op rfl rfl (opTo_box (ints ws) rfl rfl rfl ?_)
  have hB : B ≤ w.heap.size := Nat.le_trans h.base (Nat.le_of_lt h.blk.lt)
  rw [World.size_alloc, World.size_alloc, World.size_alloc]
  have hk1 : Keep [] w (((w.alloc (.cells [Value.pointer (some ⟨c, 0, none⟩)].toArray 165)).alloc (.cells [Value.int .i64 a].toArray 2)).alloc (.cells (ints ws).toArray 109)) := (((Keep.refl _ _).alloc _).alloc _).alloc _
  have hx1 := ((Blk.new w [Value.pointer (some ⟨c, 0, none⟩)] 165).alloc (.cells [Value.int .i64 a].toArray 2)).alloc (.cells (ints ws).toArray 109)
  have hy1 := (Blk.new (w.alloc (.cells [Value.pointer (some ⟨c, 0, none⟩)].toArray 165)) [Value.int .i64 a] 2).alloc (.cells (ints ws).toArray 109)
  have hz1 := Blk.new ((w.alloc (.cells [Value.pointer (some ⟨c, 0, none⟩)].toArray 165)).alloc (.cells [Value.int .i64 a].toArray 2)) (ints ws) 109
  rw [World.size_alloc] at hy1 hz1
  rw [World.size_alloc] at hz1
  have ht1 := hk1.tch0 hB
  have h1 := h.keep0 hk1
  generalize (((w.alloc (.cells [Value.pointer (some ⟨c, 0, none⟩)].toArray 165)).alloc (.cells [Value.int .i64 a].toArray 2)).alloc (.cells (ints ws).toArray 109)) = w1 at *
  have hB1 : B ≤ w1.heap.size := Nat.le_trans hB ht1.size
  generalize w.heap.size + 1 + 1 = z at hz1 ⊢
  generalize w.heap.size + 1 = y at hy1 ⊢
  generalize w.heap.size = x at hx1
  refine au ?_
  have hS0 : Blk w1.drew x [.pointer (some ⟨c, 0, none⟩)] 165 ∧ Blk w1.drew c (ccells s N K dv) 173 := ⟨hx1, h1.blk⟩
  have hcd : ∀ w', Blk w' c (ccells s N K dv) 173 → w'.cell? ⟨c, 0 + 52, none⟩ = some dv := fun w' hb => hb.cell (ccells_atD h.nlen h.klen)
  refine rn_draw (fun w' => Blk w' x [.pointer (some ⟨c, 0, none⟩)] 165 ∧ Blk w' c (ccells s N K dv) 173) [10] hMix ?_
  refine dr_val 0 (.pointer (some ⟨c, 0, none⟩)) rfl (by decide +kernel) rfl rfl (fun w' hk => val_load1 hT rfl rfl rfl (hk.1.cell rfl)) hS0 ?_
  refine dr_val 1 (.pointer (some ⟨c, 0, none⟩)) rfl (by decide +kernel) rfl rfl (fun w' hk => val_load1 hT rfl rfl rfl (hk.1.cell rfl)) hS0 ?_
  refine tk 2 ?_
  refine tk 3 ?_
  refine dr_val 4 dv rfl (by decide +kernel) rfl rfl (fun w' hk => val_load1 hT rfl rfl rfl (hcd w' hk.2)) hS0 ?_
  refine tk 5 ?_
  refine dr_op 6 rfl (by decide +kernel) rfl rfl (opTo_buildSlice _ [_] rfl rfl (slice_deed _ rfl) ⟨fun _ => ⟨hS0.1.alloc _, hS0.2.alloc _⟩, ?_⟩)
  have hk2 := ((Keep.refl [] w1).drew).alloc (.cells [Value.func (.func 117) #[] #[.pointer (some ⟨x, 0, none⟩), .pointer (some ⟨y, 0, none⟩), .pointer (some ⟨z, 0, none⟩)]].toArray 1)
  have hy2 := Blk.new w1.drew [Value.func (.func 117) #[] #[.pointer (some ⟨x, 0, none⟩), .pointer (some ⟨y, 0, none⟩), .pointer (some ⟨z, 0, none⟩)]] 1
  have h2 := h1.keep0 hk2
  have hx2 := hk2.blk hx1 (by simp)
  have ht2 := hk2.tch0 hB1
  have hB2 : B ≤ (w1.drew.alloc (.cells [Value.func (.func 117) #[] #[.pointer (some ⟨x, 0, none⟩), .pointer (some ⟨y, 0, none⟩), .pointer (some ⟨z, 0, none⟩)]].toArray 1)).heap.size := Nat.le_trans hB1 ht2.size
  have hd : DeedV (w1.drew.alloc (.cells [Value.func (.func 117) #[] #[.pointer (some ⟨x, 0, none⟩), .pointer (some ⟨y, 0, none⟩), .pointer (some ⟨z, 0, none⟩)]].toArray 1)) c (Value.func (.func 117) #[] #[.pointer (some ⟨x, 0, none⟩), .pointer (some ⟨y, 0, none⟩), .pointer (some ⟨z, 0, none⟩)]) (some (a, ws)) := ⟨x, y, z, rfl, hx2, hk2.blk hy1 (by simp), hk2.blk hz1 (by simp), hw⟩
  refine dr_op 7 rfl (by decide +kernel) rfl rfl (opTo_app B 1 1 8 fvs [Value.func (.func 117) #[] #[.pointer (some ⟨x, 0, none⟩), .pointer (some ⟨y, 0, none⟩), .pointer (some ⟨z, 0, none⟩)]] rfl rfl rfl (by decide +kernel) h2.own (hy2.range rfl) rfl (by simp; rfl) (by decide) (by unfold maxLen; omega) (by omega) hB2 ?_)
  intro g cap w3 hown hor
  obtain ⟨hb3, h4, ht4⟩ := h2.app hd hown hor
  have ht3 := h2.app1 hor
  refine ⟨fun _ => ⟨ht3.typ _ _ _ hx2 (by decide), hb3⟩, ?_⟩
  refine tk 8 ?_
  refine tk 9 ?_
  refine dr_op 10 rfl (by decide +kernel) rfl rfl (opTo_store _ rfl rfl rfl rfl (by kernel_rfl) hb3 (by rw [ccells_length h.nlen h.klen]; simp) (by simp; rfl) ⟨fun hn => absurd (by simp) hn, ?_⟩)
  rw [show splice (ccells s N K dv) (0 + 52) [Value.slice (some ⟨g, 0, none⟩) (D.length + 1) cap] = ccells s N K (.slice (some ⟨g, 0, none⟩) (D.length + 1) cap) from ccells_setD h.nlen h.klen _]
  refine dr_done (by decide +kernel) ?_
  exact rn_end Tryz.func107 (.inr (.inl ⟨rfl, rfl⟩)) ⟨rfl, ⟨_, _, h4⟩, (ht1.trans ht2).trans ht4⟩


def freeK (K : List Bool) : Nat := firstOf fun i => !K.getD i false

theorem lay_ret {B : Nat} {w : World} {c s : Nat} {N : List Int} {K : List Bool} {dv : Value} {fvs : List Value} {D : List Deed} (h : ComV B w c s N K dv fvs D) (hD : D.length < 1000) {ws : List Int} (hw : ws.length = 8) :
    Ret Tryz.prog 104 [.pointer (some ⟨c, 0, none⟩), .agg (ints ws).toArray] w fun v w' => v = .int .i64 (freeK K : Nat) ∧ (∃ dv' fvs', ComV B w' c s N (takeK K (freeK K : Nat)) dv' fvs' (D ++ [some (((freeK K : Nat) : Int), ws)])) ∧ Tch B w w' := by
  refine ret_of 16 Tryz.func104 rfl rfl (by simp) ?_
  refine au ?_
  refine pl_op rfl rfl (opTo_box [.pointer (some ⟨c, 0, none⟩)] rfl rfl rfl ?_)
  refine pl_op rfl rfl (opTo_box (ints ws) rfl rfl rfl ?_)
  have hB : B ≤ w.heap.size := Nat.le_trans h.base (Nat.le_of_lt h.blk.lt)
  rw [World.size_alloc]
  have hk1 : Keep [] w ((w.alloc (.cells [Value.pointer (some ⟨c, 0, none⟩)].toArray 165)).alloc (.cells (ints ws).toArray 109)) := ((Keep.refl _ _).alloc _).alloc _
  have hx1 := (Blk.new w [Value.pointer (some ⟨c, 0, none⟩)] 165).alloc (.cells (ints ws).toArray 109)
  have hz1 := Blk.new (w.alloc (.cells [Value.pointer (some ⟨c, 0, none⟩)].toArray 165)) (ints ws) 109
  rw [World.size_alloc] at hz1
  have ht1 := hk1.tch0 hB
  have h1 := h.keep0 hk1
  generalize ((w.alloc (.cells [Value.pointer (some ⟨c, 0, none⟩)].toArray 165)).alloc (.cells (ints ws).toArray 109)) = w1 at *
  generalize w.heap.size + 1 = z at hz1 ⊢
  generalize w.heap.size = x at hx1
  refine au ?_
  refine pl_op rfl rfl (opTo_call rfl rfl rfl rfl (by decide +kernel) ((first_ret (fun i => !K.getD i false) 114 [.pointer (some ⟨x, 0, none⟩)] (by decide +kernel) fun j hj => lay1_ret h1 hx1 j hj).mono ?_))
  rintro v w2 ⟨rfl, rfl⟩
  rw [show (firstOf fun i => !K.getD i false) = freeK K from rfl]
  refine au ?_
  refine pl_val (.pointer (some ⟨c, 0, none⟩)) rfl rfl (val_load1 hT rfl rfl rfl (hx1.cell rfl)) ?_
  refine au ?_
  refine pl_op rfl rfl (opTo_call rfl rfl rfl rfl (by decide +kernel) ((take_ret h1 (freeK K : Nat)).mono ?_))
  rintro v w3 ⟨rfl, h3, ht3⟩
  have hx3 := ht3.typ _ _ _ hx1 (by decide)
  have hz3 := ht3.typ _ _ _ hz1 (by decide)
  refine au ?_
  refine pl_val (.pointer (some ⟨c, 0, none⟩)) rfl rfl (val_load1 hT rfl rfl rfl (hx3.cell rfl)) ?_
  refine au ?_
  refine pl_val (.agg (ints ws).toArray) rfl rfl (val_load _ hT rfl rfl (by rw [ints_length, hw]; rfl) (hz3.range (by simp))) ?_
  refine pl_op rfl rfl (opTo_call rfl rfl rfl rfl (by decide +kernel) ((cwrite_ret h3 hD (freeK K : Nat) hw).mono ?_))
  rintro v w4 ⟨rfl, h4, ht4⟩
  refine au ?_
  exact rn_ret Tryz.func104 (.inl ⟨_, rfl, rfl⟩) ⟨rfl, h4, (ht1.trans ht3).trans ht4⟩
end E
end Go.Proofs.YtmplkogkphmmjagGreat

/- The contracts of a state's words, of begin, of the deeds, and of do. -/
namespace Go.Proofs.YtmplkogkphmmjagGreat
set_option maxRecDepth 20000
set_option maxHeartbeats 4000000
namespace E
open Go.Proofs

def partW (N : List Int) (j : Nat) : List Int := (((N.drop (3 + j * 8)).take (14 - j * 8)) ++ z8).take 8
def rootW (N : List Int) : List Int := [N.getD 0 0, N.getD 1 0, N.getD 2 0, 0, 0, 0, 0, 0]

theorem list17 {l : List Int} (h : l.length = 17) : ∃ a b c d e f g i j k m n o p q r s, l = [a, b, c, d, e, f, g, i, j, k, m, n, o, p, q, r, s] := by
  match l, h with
  | [a, b, c, d, e, f, g, i, j, k, m, n, o, p, q, r, s], _ => exact ⟨a, b, c, d, e, f, g, i, j, k, m, n, o, p, q, r, s, rfl⟩

theorem partW_length {N : List Int} (_ : N.length = 17) (j : Nat) : (partW N j).length = 8 := by
  simp [partW, z8]

section
variable {B : Nat} {w : World} {c s : Nat} {N : List Int} {K : List Bool} {dv : Value} {fvs : List Value} {D : List Deed}

theorem partWords_ret (h : ComV B w c s N K dv fvs D) (j : Nat) (hj : j < 2) :
    Ret Tryz.prog 105 [.pointer (some ⟨c, 1, none⟩), .int .i64 (j : Nat)] w fun v w' => v = .agg (ints (partW N j)).toArray ∧ Keep [] w w' := by
  refine ret_of 15 Tryz.func105 rfl rfl (by simp) ?_
  refine au ?_
  refine pl_op rfl rfl (opTo_alloc _ rfl zero_words ?_)
  refine au ?_
  refine pl_op rfl rfl (opTo_alloc _ rfl zero_words ?_)
  rw [World.size_alloc]
  have hk1 : Keep [] w ((w.alloc (.cells (ints (List.replicate 8 0)).toArray 109)).alloc (.cells (ints (List.replicate 8 0)).toArray 109)) := ((Keep.refl _ _).alloc _).alloc _
  have hr1 := (Blk.new w (ints (List.replicate 8 0)) 109).alloc (.cells (ints (List.replicate 8 0)).toArray 109)
  have hx1 := Blk.new (w.alloc (.cells (ints (List.replicate 8 0)).toArray 109)) (ints (List.replicate 8 0)) 109
  rw [World.size_alloc] at hx1
  have h1 := h.keep0 hk1
  generalize ((w.alloc (.cells (ints (List.replicate 8 0)).toArray 109)).alloc (.cells (ints (List.replicate 8 0)).toArray 109)) = w1 at *
  refine au ?_
  refine rn_draw (fun _ => True) [] hMix ?_
  refine dr_any 0 _ rfl (by decide +kernel) rfl rfl (fun w' => val_sliceArr hT rfl rfl rfl w') ?_
  refine tk 1 ?_
  refine tk 2 ?_
  refine tk 3 ?_
  refine tk 4 ?_
  refine dr_any 5 (.int .i64 ((j * 8 : Nat) : Int)) rfl (by decide +kernel) rfl rfl (fun w' => val_int .i64 j 8 _ rfl rfl rfl (by simp only [intOp]; rw [wrap_i64 (by omega) (by omega)]; simp) w') ?_
  refine dr_any 6 _ rfl (by decide +kernel) rfl rfl (fun w' => val_sliceArrFrom (j * 8) hT rfl rfl rfl rfl rfl (by omega) w') ?_
  have hn := h.nlen
  have hcl : (((N.drop (3 + j * 8)).take (14 - j * 8)).take 8).length = Nat.min (14 - j * 8) 8 := by
    rw [List.length_take, List.length_take, List.length_drop, hn]
    simp only [Nat.min_def]
    repeat' split
    all_goals omega
  refine dr_op 7 rfl (by decide +kernel) rfl rfl (opTo_copy (ints (((N.drop (3 + j * 8)).take (14 - j * 8)).take 8)) rfl rfl rfl (by decide +kernel) hx1.drew (by rw [ints_length, hcl]) ?_ (by rw [ints_length, hcl]; simp only [ints_length, List.length_replicate, Nat.zero_add]; exact Nat.min_le_right _ _) (ints_one _) fun r => ⟨fun _ => trivial, ?_⟩)
  · have := (h1.keep0 ((Keep.refl [] w1).drew)).rangeN (3 + j * 8) (14 - j * 8) (by omega)
    refine rangeAt_take (cs := ints ((N.drop (3 + j * 8)).take (14 - j * 8))) ?_ ?_
    · have e : 1 + (3 + j * 8) = 1 + 3 + j * 8 * 1 := by omega
      rw [← e]; exact this
    · rw [ints_length, hcl]
      simp only [ints, List.map_take]
      rw [List.take_take, List.take_take]
      apply List.take_eq_take_iff.2
      simp only [List.length_map, List.length_drop, hn]
      simp only [Nat.min_def]
      repeat' split
      all_goals omega
  refine dr_done (by decide +kernel) ?_
  have e : splice (ints (List.replicate 8 0)) 0 (ints (((N.drop (3 + j * 8)).take (14 - j * 8)).take 8)) = ints (partW N j) := by
    have hj2 : j = 0 ∨ j = 1 := by omega
    obtain ⟨a, b, c, d, e, f, g, i, j, k, m, n, o, p, q, r, s, rfl⟩ := list17 hn
    rcases hj2 with rfl | rfl <;> rfl
  rw [e]
  have h8 := partW_length hn j
  have hx2 := hx1.drew.set (ints (partW N j))
  have hr2 := hr1.drew.other (ints (partW N j)).toArray (c := w.heap.size + 1) (by omega)
  have hk2 := (hk1.drew).setRow (w.heap.size + 1) (ints (partW N j)).toArray (.inr (by omega))
  generalize (w1.drew.setRow (w.heap.size + 1) (ints (partW N j)).toArray) = w2 at *
  refine au ?_
  refine pl_val (.agg (ints (partW N j)).toArray) rfl rfl (val_load _ hT rfl rfl (by rw [ints_length, h8]; rfl) (hx2.range (by simp))) ?_
  refine pl_op rfl rfl (opTo_store _ rfl rfl rfl rfl (by rw [ints_length, h8]; decide +kernel) hr2 (by rw [ints_length, h8]; decide) (ints_one _) ?_)
  rw [splice_all (by rw [ints_length, h8]; rfl)]
  refine au ?_
  exact rn_ret Tryz.func105 (.inr (.inr (.inl ⟨_, _, _, rfl, rfl, loadVar_agg hT (cs := ints (partW N j)) (by rw [ints_length, h8]; rfl) ((hr2.set _).range (by simp))⟩))) ⟨rfl, hk2.setRow _ _ (.inr (Nat.le_refl _))⟩

theorem rootAt_ret (h : ComV B w c s N K dv fvs D) :
    Ret Tryz.prog 108 [.pointer (some ⟨c, 1, none⟩)] w fun v w' => v = .int .i64 ((N.getD 0 0).tmod 2) ∧ w' = w := by
  refine ret_of 8 Tryz.func108 rfl rfl (by simp) ?_
  refine au ?_
  have hc := h.cellN (i := 0) (x := N.getD 0 0) (by rw [List.getD_eq_getElem?_getD, List.getElem?_eq_getElem (by rw [h.nlen]; decide)]; rfl)
  refine pl_val (.int .i64 (N.getD 0 0)) rfl rfl (val_load1 hT rfl rfl rfl hc) ?_
  refine pl_val (.int .i64 ((N.getD 0 0).tmod 2)) rfl rfl (val_int .i64 _ 2 _ rfl rfl rfl (by simp [intOp]) w) ?_
  refine au ?_
  exact rn_ret Tryz.func108 (.inl ⟨_, rfl, rfl⟩) ⟨rfl, rfl⟩

theorem built_root (g : Int) : Tryz.prog.built 109 [(0, Value.int .i64 g)] = some (ints [g, 0, 0, 0, 0, 0, 0, 0]).toArray := by kernel_rfl

theorem rootWords_ret (h : ComV B w c s N K dv fvs D) :
    Ret Tryz.prog 109 [.pointer (some ⟨c, 1, none⟩)] w fun v w' => v = .agg (ints (rootW N)).toArray ∧ Keep [] w w' := by
  refine ret_of 16 Tryz.func109 rfl rfl (by simp) ?_
  refine au ?_
  refine pl_op rfl rfl (opTo_alloc _ rfl zero_words ?_)
  have hk1 : Keep [] w (w.alloc (.cells (ints (List.replicate 8 0)).toArray 109)) := (Keep.refl _ _).alloc _
  have hr1 := Blk.new w (ints (List.replicate 8 0)) 109
  have h1 := h.keep0 hk1
  generalize (w.alloc (.cells (ints (List.replicate 8 0)).toArray 109)) = w1 at *
  refine au ?_
  have hn := h.nlen
  have hc := h1.cellN (i := 0) (x := N.getD 0 0) (by rw [List.getD_eq_getElem?_getD, List.getElem?_eq_getElem (by rw [h.nlen]; decide)]; rfl)
  refine pl_val (.int .i64 (N.getD 0 0)) rfl rfl (val_load1 hT rfl rfl rfl hc) ?_
  refine pl_val _ rfl rfl (val_build _ rfl rfl (built_root _) w1) ?_
  refine pl_op rfl rfl (opTo_alloc _ rfl zero_words ?_)
  have hk2 := hk1.alloc (.cells (ints (List.replicate 8 0)).toArray 109)
  have hr2 := hr1.alloc (.cells (ints (List.replicate 8 0)).toArray 109)
  have hx2 := Blk.new w1 (ints (List.replicate 8 0)) 109
  have hne : w.heap.size ≠ w1.heap.size := by have := hr1.lt; omega
  have hsz := hk1.size
  generalize (w1.alloc (.cells (ints (List.replicate 8 0)).toArray 109)) = w2 at *
  refine au ?_
  refine pl_op rfl rfl (opTo_store _ rfl rfl rfl rfl (by kernel_rfl) hx2 (by simp [ints]) (ints_one _) ?_)
  rw [splice_all (show (ints [N.getD 0 0, 0, 0, 0, 0, 0, 0, 0]).length = (ints (List.replicate 8 0)).length from rfl)]
  have hk3 := hk2.setRow w1.heap.size (ints [N.getD 0 0, 0, 0, 0, 0, 0, 0, 0]).toArray (.inr hsz)
  have hx3 := hx2.set (ints [N.getD 0 0, 0, 0, 0, 0, 0, 0, 0])
  have hr3 := hr2.other (ints [N.getD 0 0, 0, 0, 0, 0, 0, 0, 0]).toArray hne
  have h3 := h.keep0 hk3
  generalize (w2.setRow w1.heap.size (ints [N.getD 0 0, 0, 0, 0, 0, 0, 0, 0]).toArray) = w3 at *
  refine au ?_
  refine rn_draw (fun _ => True) [] hMix ?_
  refine dr_any 0 _ rfl (by decide +kernel) rfl rfl (fun w' => val_sliceArrFrom 1 hT rfl rfl rfl rfl rfl (by decide) w') ?_
  refine tk 1 ?_
  refine tk 2 ?_
  refine tk 3 ?_
  refine dr_any 4 _ rfl (by decide +kernel) rfl rfl (fun w' => val_sliceArr hT rfl rfl rfl w') ?_
  have hcl : ((N.drop 1).take 2).length = 2 := by simp [hn]
  refine dr_op 5 rfl (by decide +kernel) rfl rfl (opTo_copy (ints ((N.drop 1).take 2)) rfl rfl rfl (by decide +kernel) hx3.drew (by rw [ints_length, hcl]; rfl) ((h3.keep0 ((Keep.refl [] w3).drew)).rangeN 1 2 (by decide)) (by rw [ints_length, hcl]; simp [ints]) (ints_one _) fun r => ⟨fun _ => trivial, ?_⟩)
  refine dr_done (by decide +kernel) ?_
  have e : splice (ints [N.getD 0 0, 0, 0, 0, 0, 0, 0, 0]) (0 + 1 * 1) (ints ((N.drop 1).take 2)) = ints (rootW N) := by
    obtain ⟨a, b, c, d, e, f, g, i, j, k, m, n, o, p, q, r, s, rfl⟩ := list17 hn
    rfl
  rw [e]
  have hx4 := hx3.drew.set (ints (rootW N))
  have hr4 := hr3.drew.other (ints (rootW N)).toArray hne
  have hk4 := (hk3.drew).setRow w1.heap.size (ints (rootW N)).toArray (.inr hsz)
  generalize (w3.drew.setRow w1.heap.size (ints (rootW N)).toArray) = w4 at *
  refine au ?_
  refine pl_val (.agg (ints (rootW N)).toArray) rfl rfl (val_load _ hT rfl rfl rfl (hx4.range (by simp))) ?_
  refine pl_op rfl rfl (opTo_store _ rfl rfl rfl rfl (by kernel_rfl) hr4 (by simp [ints, rootW]) (ints_one _) ?_)
  rw [splice_all (show (ints (rootW N)).length = (ints (List.replicate 8 0)).length from rfl)]
  refine au ?_
  exact rn_ret Tryz.func109 (.inr (.inr (.inl ⟨_, _, _, rfl, rfl, loadVar_agg hT (cs := ints (rootW N)) rfl ((hr4.set _).range (by simp))⟩))) ⟨rfl, hk4.setRow _ _ (.inr (Nat.le_refl _))⟩
end
end E
end Go.Proofs.YtmplkogkphmmjagGreat
