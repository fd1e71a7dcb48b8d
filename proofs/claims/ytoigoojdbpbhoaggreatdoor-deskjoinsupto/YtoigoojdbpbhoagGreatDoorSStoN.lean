/- Texts StoN. -/
import Derived.Test.YtoigoojdbpbhoagGreatDoorJ06
namespace Go.Proofs.YtoigoojdbpbhoagGreatDoor
set_option maxRecDepth 20000
set_option maxHeartbeats 4000000
namespace E
def newRead (S : List Int) (ps : List Pg) (i : Int) : List Int := match lookP ps i.toNat with
 | some ws => ws
 | none => readS S i
structure New (S : List Int) (ps : List Pg) (S' : List Int) : Prop where
 good : Good S'
 gen : genS S' = genS S + 1
 read : ∀ i, hasP i = true → readS S' i = newRead S ps i
theorem doDeeds_writes (W : List Wr) (hW : ∀ p ∈ W, p.1 < 34) (S : List Int) (L : List Wr) : doDeeds (W.map fun p => some ((p.1 : Int), p.2)) (S, L) = (S, L ++ W) := by
 induction W generalizing L with
 | nil => simp [doDeeds]
 | cons p r ih =>
  have hb : hasB ((p.1 : Nat) : Int) = true := by have := hW p (by simp); simp [hasB]; omega
  rw [List.map_cons, doDeeds, List.foldl_cons]
  have e : doDeed (S, L) (some ((p.1 : Int), p.2)) = (S, L ++ [p]) := by simp [doDeed, hb]
  rw [e]
  have := ih (fun q hq => hW q (List.mem_cons_of_mem _ hq)) (L ++ [p])
  rw [doDeeds] at this
  rw [this]
  simp
theorem tmod2 {g : Int} (h : 0 ≤ g) : g.tmod 2 = 0 ∨ g.tmod 2 = 1 := by
 rw [Int.tmod_eq_emod_of_nonneg h]
 omega
theorem partW_set (N : List Int) (k : Int) (_ : N.length = 17) (j : Nat) : partW (N.set 1 k) j = partW N j := by
 unfold partW
 rw [List.drop_set_of_lt (by omega)]
theorem commit_math {S : List Int} (hG : Good S) {ps : List Pg} (hc : chk ps = 0) (hwf : ∀ p ∈ ps, p.2.length = 8) :
  ∃ (W : List Wr) (r : Wr), W.length = ps.length + 2 ∧ (∀ p ∈ W, p.1 < 34 ∧ p.2.length = 8) ∧ (r.1 < 34 ∧ r.2.length = 8) ∧
   deedsOf S ps = (W.map fun p => some ((p.1 : Int), p.2)) ++ [none] ++ [some ((r.1 : Int), r.2)] ++ [none] ∧
   (∀ (V : List Wr) (stays : Nat → Bool), (∀ p ∈ V, p ∈ W) → Same S (settled stays V S)) ∧
   New S ps (upd (settled (fun _ => true) W S) r) := by
 have hS := hG.len
 obtain ⟨W, hP, hWl, hN0, hLe⟩ := planP_inv hS hc hwf ps.length (Nat.le_refl _)
 rw [List.take_of_length_le (Nat.le_refl _)] at hP hN0 hLe
 have h14 := chk_len hc
 have hn := hP.nlen
 have hP1 := hP.lay (N' := (planP S ps).N.set (1 + 0) (freeK (planP S ps).K : Nat)) (by omega) (partW_length hn 0) (by simp [hn])
 have e1 : (⟨(planP S ps).N.set (1 + 0) (freeK (planP S ps).K : Nat), takeK (planP S ps).K (freeK (planP S ps).K : Nat), (planP S ps).D ++ [some (((freeK (planP S ps).K : Nat) : Int), partW (planP S ps).N 0)]⟩ : Plan) = layT (planP S ps) 0 := rfl
 rw [e1] at hP1
 have hn1 := hP1.nlen
 have hP2 := hP1.lay (N' := (layT (planP S ps) 0).N.set (1 + 1) (freeK (layT (planP S ps) 0).K : Nat)) (by simp; omega) (partW_length hn1 1) (by simp [hn1])
 have e2 : (⟨(layT (planP S ps) 0).N.set (1 + 1) (freeK (layT (planP S ps) 0).K : Nat), takeK (layT (planP S ps) 0).K (freeK (layT (planP S ps) 0).K : Nat), (layT (planP S ps) 0).D ++ [some (((freeK (layT (planP S ps) 0).K : Nat) : Int), partW (layT (planP S ps) 0).N 1)]⟩ : Plan) = planT S ps := rfl
 rw [e2] at hP2
 have eN1 : (layT (planP S ps) 0).N = (planP S ps).N.set 1 (freeK (planP S ps).K : Nat) := rfl
 have eN2 : (planT S ps).N = ((planP S ps).N.set 1 (freeK (planP S ps).K : Nat)).set 2 (freeK (layT (planP S ps) 0).K : Nat) := rfl
 rw [eN1, partW_set _ _ hn] at hP2
 generalize hk0 : freeK (planP S ps).K = k0 at *
 generalize hk1 : freeK (layT (planP S ps) 0).K = k1 at *
 generalize hN : (planP S ps).N = N at *
 generalize hWW : W ++ [(k0, partW N 0)] ++ [(k1, partW N 1)] = V at *
 have hmem : ∀ p ∈ V, p.1 < 34 ∧ p.2.length = 8 := fun p hp => ⟨(hP2.mem p hp).1, (hP2.mem p hp).2.1⟩
 have hfree : ∀ p ∈ V, ∀ k, at_ (takenK S) k = true → p.1 ≠ k := fun p hp k hk e => by
  have := (hP2.mem p hp).2.2.1
  rw [e, hk] at this
  cases this
 have hge2 : ∀ p ∈ V, p.1 ≠ 0 ∧ p.1 ≠ 1 := fun p hp => ⟨hfree p hp 0 (taken_root (by decide)), hfree p hp 1 (taken_root (by decide))⟩
 have hm0 : (k0, partW N 0) ∈ V := by rw [← hWW]; simp
 have hm1 : (k1, partW N 1) ∈ V := by rw [← hWW]; simp
 have hgen0 : 0 ≤ genS S := genS_nonneg S
 have hNg : (planT S ps).N.getD 0 0 = genS S + 1 := by
  rw [eN2, getD_set_other (by decide), getD_set_other (by decide)]
  exact hN0
 have hroot : rootW (planT S ps).N = [genS S + 1, (k0 : Int), (k1 : Int), 0, 0, 0, 0, 0] := by
  unfold rootW
  rw [hNg, eN2, getD_set_other (by decide), getD_set_same (by omega), getD_set_same (by simp; omega)]
 obtain ⟨r, hr, hr2⟩ : ∃ r : Nat, (genS S + 1).tmod 2 = (r : Int) ∧ (r = 0 ∨ r = 1) := by
  rcases tmod2 (g := genS S + 1) (by omega) with h | h
  ·exact ⟨0, h, .inl rfl⟩
  ·exact ⟨1, h, .inr rfl⟩
 have hrd : rootD (planT S ps) = ((r : Int), [genS S + 1, (k0 : Int), (k1 : Int), 0, 0, 0, 0, 0]) := by
  unfold rootD
  rw [hNg, hr, hroot]
 have hrw : r < 34 ∧ [genS S + 1, (k0 : Int), (k1 : Int), 0, 0, 0, 0, 0].length = 8 := ⟨by omega, rfl⟩
 have hsame : ∀ (V' : List Wr) (stays : Nat → Bool), (∀ p ∈ V', p ∈ V) → Same S (settled stays V' S) := fun V' stays hV' =>
  same_of hG (settled_length (fun p hp => hmem p (hV' p hp)) hS) fun k hk ht =>
   sector_stl_other hS (fun p hp => hmem p (hV' p hp)) hk (fun p hp => hfree p (hV' p hp) k ht) _ (Nat.le_refl _)
 refine ⟨V, (r, [genS S + 1, (k0 : Int), (k1 : Int), 0, 0, 0, 0, 0]), by rw [← hWW]; simp [hWl], hmem, hrw, ?_, hsame, ?_⟩
 ·rw [deedsOf, hP2.deeds, hrd]
 -- the new state
 have hS1 : (settled (fun _ => true) V S).length = 272 := settled_length hmem hS
 have hsec : ∀ p ∈ V, sector (settled (fun _ => true) V S) p.1 = p.2 := fun p hp => by
  rw [settled_all]
  exact sector_foldl_mem hmem hP2.nd hS hp
 have hsec0 : ∀ k, k < 34 → at_ (takenK S) k = true → sector (settled (fun _ => true) V S) k = sector S k := fun k hk ht =>
  sector_stl_other hS hmem hk (fun p hp => hfree p hp k ht) _ (Nat.le_refl _)
 generalize settled (fun _ => true) V S = S1 at *
 generalize hrww : [genS S + 1, (k0 : Int), (k1 : Int), 0, 0, 0, 0, 0] = rw_ at *
 have hupd : ∀ k, k < 34 → sector (upd S1 (r, rw_)) k = if r = k then rw_ else sector S1 k := fun k hk => sector_upd hS1 hrw hk
 have hlen2 : (upd S1 (r, rw_)).length = 272 := upd_length hS1 hrw
 generalize upd S1 (r, rw_) = S2 at *
 have hs0 := hsec0 0 (by decide) (taken_root (by decide))
 have hs1 := hsec0 1 (by decide) (taken_root (by decide))
 have hbnd := (hd_root (S := S) 2).2
 have hg : genS S = hd (rootMax S 2) := rfl
 have hhd : hd rw_ = genS S + 1 := by rw [← hrww]; rfl
 have hlast : lastRoot S2 = rw_ := by
  show rootMax S2 (0 + 1 + 1) = rw_
  have ez : hd z8 = 0 := by decide
  rcases hr2 with rfl | rfl
  ·have e0 : sector S2 0 = rw_ := by rw [hupd 0 (by decide), if_pos rfl]
   have e1 : sector S2 1 = sector S 1 := by rw [hupd 1 (by decide), if_neg (by decide), hs1]
   have er : rootMax S2 (0 + 1) = rw_ := by
    unfold rootMax
    rw [e0]
    show (if hd rw_ > hd z8 then rw_ else z8) = rw_
    rw [if_pos (by omega)]
   unfold rootMax
   rw [er, e1, if_neg]
   have := hbnd 1 (by decide)
   omega
  ·have e0 : sector S2 0 = sector S 0 := by rw [hupd 0 (by decide), if_neg (by decide), hs0]
   have e1 : sector S2 1 = rw_ := by rw [hupd 1 (by decide), if_pos rfl]
   have er : rootMax S2 (0 + 1) = rootMax S (0 + 1) := by
    unfold rootMax
    rw [e0]
    rfl
   have hle : hd (rootMax S (0 + 1)) ≤ genS S := by
    have h0 := hbnd 0 (by decide)
    unfold rootMax
    split
    ·exact h0
    ·show hd z8 ≤ _
     omega
   show rootMax S2 (0 + 1 + 1) = rw_
   rw [show rootMax S2 (0 + 1 + 1) = if hd (sector S2 (0 + 1)) > hd (rootMax S2 (0 + 1)) then sector S2 (0 + 1) else rootMax S2 (0 + 1) from rfl, er, show sector S2 (0 + 1) = rw_ from e1, if_pos (by omega)]
 have hgen2 : genS S2 = genS S + 1 := by rw [genS, hlast, hhd]
 have htab : tabS S2 = [(k0 : Int), (k1 : Int)] := by rw [tabS, hlast, ← hrww]; rfl
 have hheld : ∀ p ∈ V, heldS S2 (p.1 : Nat) = p.2 := fun p hp => by
  have h1 := hmem p hp
  have h2 := hge2 p hp
  have hb : hasB ((p.1 : Nat) : Int) = true := by simp [hasB]; omega
  unfold heldS
  rw [if_neg (by rw [hb]; simp; exact h2.1), Int.toNat_natCast, hupd _ h1.1, if_neg (by omega), hsec p hp]
 have hpg : pgS S2 = N.drop 3 := by
  unfold pgS
  rw [htab]
  show (heldS S2 (k0 : Nat) ++ heldS S2 (k1 : Nat)).take 14 = _
  have h0 := hheld _ hm0
  have h1 := hheld _ hm1
  simp only at h0 h1
  rw [h0, h1]
  obtain ⟨a, b, c, d, e, f, g, i, j, k, m, n, o, p, q, r, s, rfl⟩ := list17 hn
  rfl
 have hgetN : ∀ i, (N.drop 3).getD i 0 = N.getD (3 + i) 0 := fun i => by
  rw [List.getD_eq_getElem?_getD, List.getD_eq_getElem?_getD, List.getElem?_drop]
 have hp14 := pgS_length hS
 refine ⟨⟨hlen2, ?_, ?_⟩, hgen2, fun i hi => ?_⟩
 ·rw [htab]
  intro a ha
  have h0 := (hge2 _ hm0).2
  have h1 := (hge2 _ hm1).2
  simp only at h0 h1
  simp at ha
  rcases ha with rfl | rfl <;> omega
 ·rw [hpg]
  intro a ha
  obtain ⟨i, hi⟩ := List.getElem?_of_mem ha
  have hi14 : i < 14 := by
   have := (List.getElem?_eq_some_iff.1 hi).1
   simp [hn] at this
   omega
  have ha' : N.getD (3 + i) 0 = a := by rw [← hgetN, List.getD_eq_getElem?_getD, hi]; rfl
  have := hLe i hi14
  split at this
  ·rename_i ws _
   obtain ⟨k, hk1, hk2⟩ := this
   have := (hge2 (k, ws) (by rw [← hWW]; simp [hk1])).2
   simp only at this
   omega
  ·rw [ha'] at this
   rw [this]
   exact hG.pg _ (getD_mem (by omega))
 ·have hi' : 0 ≤ i ∧ i < 14 := by simpa [hasP] using hi
  rw [readS, if_pos hi, hpg, hgetN, newRead]
  have := hLe i.toNat (by omega)
  split at this
  ·rename_i ws hws
   obtain ⟨k, hk1, hk2⟩ := this
   rw [hk2, hws]
   exact hheld (k, ws) (by rw [← hWW]; simp [hk1])
  ·rename_i hws
   rw [this, hws]
   show heldS S2 _ = readS S i
   rw [readS, if_pos hi]
   have hmemp : (pgS S).getD i.toNat 0 ∈ pgS S := getD_mem (by omega)
   refine heldS_same fun hb h0 => ?_
   have hne := hG.pg _ hmemp
   have hb' : 0 ≤ (pgS S).getD i.toNat 0 ∧ (pgS S).getD i.toNat 0 < 34 := by simpa [hasB] using hb
   rw [hupd _ (by omega), if_neg (by omega)]
   exact hsec0 _ (by omega) (taken_pg hmemp hb)
end E
end Go.Proofs.YtoigoojdbpbhoagGreatDoor
