/- Texts DkG DkH DkI DkJ DkP DkQ DkX LiftT. -/
import Derived.Test.YtoigoojdbpbhoagGreatDoorJ09
import Derived.Test.YtoigoojdbpbhoagGreatDoorRows
import Derived.Test.YtoigoojdbpbhoagGreatDoorJ02
import Derived.Deep.Slices
import Derived.ChangeArms
namespace Go.Proofs.YtoigoojdbpbhoagGreatDoor
set_option maxRecDepth 20000
set_option maxHeartbeats 4000000
namespace E
section
open Go.Proofs
section
variable {w00 w : World} {c d : Nat} {fw fd : List Nat} {L : List UInt8} {s : Ds}
theorem boot_ret {F : Nat → Prop} {x : Value} {vs : List VarT} {body : List ST} (hw : Lw w00) (h : Ck w00 w c d fw fd L s) (hL : L.length ≤ 700000000000) (hin : s.inp.length ≤ 100000) (hp : ProgV F w x vs body) (hF : In F w) (hpf : progFault vs body = 0) :
  Ret Tryz.prog 63 [.pointer (some ⟨c, 0, none⟩), x] w fun r w' => r = .tuple #[] ∧ CkTo w00 w w' c d fw fd (L ++ (bootD s vs body).2) (bootD s vs body).1 := by
 have hp0 := hp
 obtain ⟨vv, bv, rfl, hv, hb⟩ := hp
 obtain ⟨av, capv, rfl⟩ := hv.form
 obtain ⟨ab, capb, rfl⟩ := hb.form
 obtain ⟨tv, iv, lv, fl, hD, hfd⟩ := h.dk
 obtain ⟨ia, icap, hiv⟩ := hD.ip.form
 obtain ⟨hsz, hvl⟩ := prog_size hpf
 have hnF := newF_good (inp := s.inp) hpf
 refine ret_of 34 Tryz.func63 rfl rfl (by simp) ?_
 refine au ?_
 refine pl_op rfl rfl (opTo_boxN [.slice av vs.length capv, .slice ab body.length capb] rfl rfl rfl ?_)
 intro w1 x3 hx3 hs1 hk1 hX1
 refine au ?_
 refine rn_draw (fun w' => Keep [] w1 w') [] hMix ?_
 have hS : Keep [] w1 w1.drew := (Keep.refl _ _).drew
 generalize w1.drew = w2 at *
 have hk02 := hk1.tr hS
 refine dr_val 0 (.agg #[.slice av vs.length capv, .slice ab body.length capb]) rfl (by decide +kernel) rfl rfl (fun w9 hS9 => val_load [.slice av vs.length capv, .slice ab body.length capb] hT rfl rfl rfl ((hS9.blk hX1 (by simp)).range (by rfl))) hS ?_
 refine tk 1 ?_
 refine tk 2 ?_
 refine tk 3 ?_
 refine dr_val 4 (.pointer (some ⟨d, 0, none⟩)) rfl (by decide +kernel) rfl rfl (fun w9 hS9 => val_load1 hT rfl rfl rfl (h.ct.keep0 (hk1.tr hS9)).desk.1) hS ?_
 refine tk 5 ?_
 refine tk 6 ?_
 refine dr_val 7 iv rfl (by decide +kernel) rfl rfl (fun w9 hS9 => val_load1 hT rfl rfl rfl (((hk1.tr hS9).blk hD.bk (by simp)).cell rfl)) hS ?_
 subst hiv
 refine dC 8 (lifeNew_ret (hp0.keep hk02 hF.stays) (hF.keep hk02) (RowL.lsC (hD.ip.keep hk02 fun _ _ => by simp)) hvl hsz hin) ?_
 rintro r w3 ⟨⟨pv, rfl, hLV⟩, hk3⟩
 refine ⟨fun _ => hS.tr hk3, ?_⟩
 refine tk 9 ?_
 refine tk 10 ?_
 refine tk 11 ?_
 refine tk 12 ?_
 refine tk 13 ?_
 refine dr_done (by decide +kernel) ?_
 have hk03 := hk02.tr hk3
 have h3 := h.keep0 hk03
 have hn64 : in64 (newF vs body s.inp) := by
  rw [hnF]
  unfold in64
  split <;> omega
 refine oC (refused_ret hn64 hw.lt h3.k0 h3.ct (by omega)) ?_
 rintro r w4 (⟨h0, rfl, rfl⟩ | ⟨h0, rfl, fw4, h4, ht4⟩)
 rotate_left
 ·refine au ?_
  have e : bootD s vs body = (s, tellB wNo [newF vs body s.inp]) := by unfold bootD; rw [if_neg h0]
  rw [e]
  exact rn_ret Tryz.func63 (.inr (.inl ⟨rfl, rfl⟩)) ⟨rfl, CkTo.late hk03 (h3.tells h4 ht4)⟩
 have e : bootD s vs body = ({ s with lif := some (vs, body, s.inp, lf0 (sumV vs).toNat) }, tellB wOk []) := by unfold bootD; rw [if_pos h0]
 rw [e]
 obtain ⟨y, fl', rfl, hLV3⟩ := hLV h0
 have hD3 := hD.keep hk03 fun _ _ => by simp
 refine au ?_
 refine pl_val _ rfl rfl (val_load1 hT rfl rfl rfl (h3.ct.desk.1)) ?_
 refine au ?_
 refine pl_op rfl rfl (opTo_storeN [.pointer (some ⟨y, 0, none⟩)] rfl rfl rfl rfl size_lfp hD3.bk (by simp) (one1 rfl) ?_)
 intro w5 hs5 hk5 hd5
 have hd5' : Blk w5 d [tv, .slice ia s.inp.length icap, .pointer (some ⟨y, 0, none⟩)] TD := hd5
 have hlt := LV.lt hLV3
 have hlow := h.low
 have hD5 := hD3.putL (fl' := fl') (cnt := s.cnt) (o := some (vs, body, s.inp, lf0 (sumV vs).toNat)) ⟨y, w2.heap.size, _, rfl, Nat.le_trans h.k0.size hk02.size, hLV3, rfl, by show (0 : Int) ≤ 0; omega, by show (0 : Int) ≤ _; omega⟩ (fun k hk hm => by
  have h1 := (hlt k hk).1
  have h2 := (hD.lt k (mem_fpK.2 ((mem_fpK.1 hm).imp id fun h => h.imp id fun h => h.imp id fun h => by cases h))).2
  have := hk02.size
  omega) hk5 hd5'
 have ht5 : Tn fd (fpK d tv (.slice ia s.inp.length icap) fl') w w5 := by
  subst hfd
  refine ⟨hk03.of0.tr (hk5.mono fun k hk => .inl (mem_fpK.2 (.inl (List.mem_singleton.1 hk)))), fun k hk => ?_⟩
  rcases mem_fpK.1 hk with h1 | h1 | h1 | h1
  ·exact .inl (mem_fpK.2 (.inl h1))
  ·exact .inl (mem_fpK.2 (.inr (.inl h1)))
  ·exact .inl (mem_fpK.2 (.inr (.inr (.inl h1))))
  ·exact .inr (Nat.le_trans hk02.size (hlt k h1).1)
 obtain ⟨fw5, fd5, h5, hk05, hw5, hf5⟩ := h.turns ⟨_, _, _, _, hD5, rfl⟩ ht5
 refine oC (tell_ret wOk (by decide) (by decide) hw.lt h5.k0 h5.ct (ls_nilV _) (nf_none _) all64_nil (by simp only [List.length_nil]; omega)) ?_
 rintro r w6 ⟨rfl, fw6, h6, ht6⟩
 refine au ?_
 exact rn_end Tryz.func63 (.inr (.inl ⟨rfl, rfl⟩)) ⟨rfl, CkTo.on hk05 hw5 hf5 (h5.tells h6 ht6)⟩
theorem LifV.inv {B : Nat} {lv : Value} {fl : List Nat} {vs : List VarT} {body : List ST} {inp : List Int} {x : Lf} (h : LifV B w lv fl s.cnt (some (vs, body, inp, x))) (hok : DsOk s) (hx : s.lif = some (vs, body, inp, x)) : ∃ y BL z, lv = .pointer (some ⟨y, 0, none⟩) ∧ B ≤ BL ∧ LV vs body inp BL w y fl z ∧ z.lf = x ∧ InvZ vs body inp z s.cnt := by
 obtain ⟨y, BL, z, h1, h2, h3, h4, h5, h6⟩ := h
 obtain ⟨_, _, _, _, g, a5, a6⟩ := hok.lf _ _ _ _ hx
 exact ⟨y, BL, z, h1, h2, h3, h4, ⟨h5, h6⟩, g, a5, by rw [h4]; exact a6⟩
theorem step_ret (sp : Sp) (hw : Lw w00) (h : Ck w00 w c d fw fd L s) (hok : DsOk s) (hL : L.length ≤ 700000000000) (hcnt : s.cnt ≤ 300000) (hlif : s.lif.isSome = true) (hK : sp.2.2.1 < 9223372036854775808) :
  Ret Tryz.prog 68 [.pointer (some ⟨c, 0, none⟩), .agg (spC sp).toArray] w fun r w' => r = .tuple #[] ∧ CkTo w00 w w' c d fw fd (L ++ (stepD s sp).2) (stepD s sp).1 := by
 obtain ⟨⟨vs, body, inp, x⟩, hx⟩ := Option.isSome_iff_exists.1 hlif
 obtain ⟨tv, iv, lv, fl, hD, hfd⟩ := h.dk
 have hlf := hD.lf
 rw [hx] at hlf
 obtain ⟨y, BL, z, rfl, hBL, hLV, hzx, hZ⟩ := hlf.inv hok hx
 obtain ⟨hpf, _, hil, _, _⟩ := hok.lf _ _ _ _ hx
 obtain ⟨hsz, hvl⟩ := prog_size hpf
 refine ret_of 29 Tryz.func68 rfl rfl (by simp) ?_
 refine au ?_
 refine pl_op rfl rfl (opTo_boxN (spC sp) rfl rfl rfl ?_)
 intro w1 x3 hx3 hs1 hk1 hX1
 refine au ?_
 refine rn_draw (fun w' => Keep [] w1 w') [8] hMix ?_
 have hS : Keep [] w1 w1.drew := (Keep.refl _ _).drew
 generalize w1.drew = w2 at *
 have hk02 := hk1.tr hS
 refine tk 0 ?_
 refine tk 1 ?_
 refine tk 2 ?_
 refine dr_val 3 (.pointer (some ⟨d, 0, none⟩)) rfl (by decide +kernel) rfl rfl (fun w9 hS9 => val_load1 hT rfl rfl rfl (h.ct.keep0 (hk1.tr hS9)).desk.1) hS ?_
 refine tk 4 ?_
 refine tk 5 ?_
 refine dr_val 6 (.pointer (some ⟨y, 0, none⟩)) rfl (by decide +kernel) rfl rfl (fun w9 hS9 => val_load1 hT rfl rfl rfl (((hk1.tr hS9).blk hD.bk (by simp)).cell rfl)) hS ?_
 refine dr_val 7 (.agg (spC sp).toArray) rfl (by decide +kernel) rfl rfl (fun w9 hS9 => val_load (spC sp) hT rfl rfl rfl ((hS9.blk hX1 (by simp)).range (by rfl))) hS ?_
 refine dC 8 (does_ret sp (LV.keep hLV hk02 fun k hk => by cases hk) hZ hcnt hpf hsz hil hK) ?_
 rintro r w3 ⟨rfl, fl', hLV3, hk3, hfl'⟩
 refine ⟨fun h => absurd (by simp) h, ?_⟩
 refine tk 9 ?_
 refine tk 10 ?_
 refine tk 11 ?_
 refine tk 12 ?_
 refine tk 13 ?_
 refine dr_done (by decide +kernel) ?_
 have hD2 := hD.keep hk02 fun _ _ => by simp
 have h2 := h.keep0 hk02
 have hZ3 := hZ.stepN (nw := nwL) sp
 by_cases hf : spFault sp = 0
 rotate_left
 ·have ez : doZS nwL (insP vs body) inp sp z = (z, 0) := by unfold doZS; rw [if_neg hf]
  rw [ez] at hLV3 ⊢
  have e : stepD s sp = (s, tellB wNo [spFault sp]) := by
   unfold stepD
   rw [hx]
   simp only
   rw [if_neg hf]
  rw [e]
  obtain ⟨hD3, ht3⟩ := hD2.goL (cnt := s.cnt) (o := some (vs, body, inp, x)) hk3 ⟨y, BL, z, rfl, hBL, hLV3, hzx, hZ.1⟩ hfl'
  rw [← hfd] at ht3
  obtain ⟨fw3, fd3, h3, hk23, hw3, hf3⟩ := h2.turns (s' := { s with lif := some (vs, body, inp, x), cnt := s.cnt }) ⟨_, _, _, _, hD3, rfl⟩ ht3
  have hes : { s with lif := some (vs, body, inp, x), cnt := s.cnt } = s := by rw [← hx]
  rw [hes] at h3
  refine oC (refused_ret (spFault_64 sp) hw.lt h3.k0 h3.ct (by omega)) ?_
  rintro r w4 (⟨h0, rfl, rfl⟩ | ⟨h0, rfl, fw4, h4, ht4⟩)
  ·exact absurd h0 hf
  ·refine au ?_
   exact rn_ret Tryz.func68 (.inr (.inl ⟨rfl, rfl⟩)) ⟨rfl, CkTo.late hk02 (CkTo.on hk23 hw3 hf3 (h3.tells h4 ht4))⟩
 ·obtain ⟨e1, e2⟩ := doZS_sp (insP vs body) inp hf z
  rw [hzx] at e1 e2
  have hle := doSp_le (vs := vs) (body := body) (inp := inp) hf x
  have hsn := spN_le sp
  have e : stepD s sp = ({ s with lif := some (vs, body, inp, (doSp (insP vs body) inp sp x).1), cnt := s.cnt + spN sp }, tellB wDid [((doSp (insP vs body) inp sp x).2 : Nat)]) := by
   unfold stepD
   rw [hx]
   simp only
   rw [if_pos hf]
  rw [e, e2]
  obtain ⟨hD3, ht3⟩ := hD2.goL (cnt := s.cnt + spN sp) (o := some (vs, body, inp, (doSp (insP vs body) inp sp x).1)) hk3 ⟨y, BL, _, rfl, hBL, hLV3, e1, hZ3.1⟩ hfl'
  rw [← hfd] at ht3
  obtain ⟨fw3, fd3, h3, hk23, hw3, hf3⟩ := h2.turns ⟨_, _, _, _, hD3, rfl⟩ ht3
  refine oC (refused_ret (spFault_64 sp) hw.lt h3.k0 h3.ct (by omega)) ?_
  rintro r w4 (⟨h0, rfl, rfl⟩ | ⟨h0, rfl, fw4, h4, ht4⟩)
  rotate_left
  ·exact absurd hf h0
  refine au ?_
  refine pl_op rfl rfl (opTo_sliceN _ _ rfl rfl (slice_o1 (((doSp (insP vs body) inp sp x).2 : Nat) : Int)) ?_)
  intro w5 g hg hs5 hk5 hb5
  have h5 := h3.keep0 hk5
  refine pl_op rfl rfl (opTo_call (fst := []) (cap := []) rfl rfl rfl rfl (by decide +kernel) ((tell_ret wDid (by decide) (by decide) hw.lt h5.k0 h5.ct (lies_at rfl hb5) (fun b q n k he _ => by
   injection he with he
   injection he with he
   injection he with he _
   exact (h3.fresh (by omega)).1) (all64_1 (by unfold in64; omega)) (by simp only [List.length_cons, List.length_nil]; omega)).mono ?_))
  rintro r w6 ⟨rfl, fw6, h6, ht6⟩
  refine au ?_
  exact rn_end Tryz.func68 (.inr (.inl ⟨rfl, rfl⟩)) ⟨rfl, CkTo.late hk02 (CkTo.on hk23 hw3 hf3 (CkTo.late hk5 (h5.tells h6 ht6)))⟩
theorem ideal_ret {F : Nat → Prop} {x : Value} {vs : List VarT} {body : List ST} (fuel : Int) (hw : Lw w00) (h : Ck w00 w c d fw fd L s) (hok : DsOk s) (hL : L.length ≤ 700000000000) (hin : s.inp.length ≤ 100000) (hp : ProgV F w x vs body) (hF : In F w) (hpf : progFault vs body = 0) (hlo : longSs body) :
  Ret Tryz.prog 66 [.pointer (some ⟨c, 0, none⟩), x, .int .i64 fuel] w fun r w' => r = .tuple #[] ∧ CkTo w00 w w' c d fw fd (L ++ (idealD s fuel vs body).2) (idealD s fuel vs body).1 := by
 have hp0 := hp
 obtain ⟨vv, bv, rfl, hv, hb⟩ := hp
 obtain ⟨av, capv, rfl⟩ := hv.form
 obtain ⟨ab, capb, rfl⟩ := hb.form
 obtain ⟨tv, iv, lv, fl, hD, hfd⟩ := h.dk
 obtain ⟨ia, icap, hiv⟩ := hD.ip.form
 obtain ⟨hsz, hvl⟩ := prog_size hpf
 obtain ⟨ro, rc, r1, r2, r3⟩ := runI_rg (vs := vs) (inp := s.inp) hpf hlo hok.ir fuel
 obtain ⟨b1, b2⟩ := runI_bnd (vs := vs) hsz s.inp fuel
 show Ret _ _ _ _ fun r w' => r = .tuple #[] ∧ CkTo w00 w w' c d fw fd (L ++ toldB (runI vs body s.inp fuel)) s
 have hI : ∀ {w2 : World}, Keep [] w w2 → Ret Tryz.prog 100 [.agg #[.slice av vs.length capv, .slice ab body.length capb], .slice ia s.inp.length icap, .int .i64 fuel] w2 fun r w' => (∃ ov cv, r = .tuple #[.agg (resC (runI vs body s.inp fuel).code ov cv).toArray, .int .i64 (runI vs body s.inp fuel).used, .int .i64 (runI vs body s.inp fuel).fault] ∧ LsC w' ov (runI vs body s.inp fuel).out ∧ LsV w' cv (runI vs body s.inp fuel).cells ∧ Nw w2 ov ∧ Nw w2 cv) ∧ Keep [] w2 w' := fun {w2} hk => by
  subst hiv
  exact idC.run fuel (hp0.keep hk hF.stays) (hF.keep hk) (RowL.lsC (hD.ip.keep hk fun _ _ => by simp)) hvl hsz hin
 generalize runI vs body s.inp fuel = T at *
 refine ret_of 39 Tryz.func66 rfl rfl (by simp) ?_
 refine au ?_
 refine pl_op rfl rfl (opTo_boxN [.slice av vs.length capv, .slice ab body.length capb] rfl rfl rfl ?_)
 intro w1 x4 hx4 hs1 hk1 hX1
 refine au ?_
 refine rn_draw (fun w' => Keep [] w1 w') [] hMix ?_
 have hS : Keep [] w1 w1.drew := (Keep.refl _ _).drew
 generalize w1.drew = w2 at *
 have hk02 := hk1.tr hS
 refine dr_val 0 (.agg #[.slice av vs.length capv, .slice ab body.length capb]) rfl (by decide +kernel) rfl rfl (fun w9 hS9 => val_load [.slice av vs.length capv, .slice ab body.length capb] hT rfl rfl rfl ((hS9.blk hX1 (by simp)).range (by rfl))) hS ?_
 refine tk 1 ?_
 refine tk 2 ?_
 refine tk 3 ?_
 refine dr_val 4 (.pointer (some ⟨d, 0, none⟩)) rfl (by decide +kernel) rfl rfl (fun w9 hS9 => val_load1 hT rfl rfl rfl (h.ct.keep0 (hk1.tr hS9)).desk.1) hS ?_
 refine tk 5 ?_
 refine tk 6 ?_
 refine dr_val 7 iv rfl (by decide +kernel) rfl rfl (fun w9 hS9 => val_load1 hT rfl rfl rfl (((hk1.tr hS9).blk hD.bk (by simp)).cell rfl)) hS ?_
 refine tk 8 ?_
 subst hiv
 refine dr_with 3 32767 (fun σ' w' => ∃ x6 oa oc ca cc, Blk w' x6 (resC 0 (.slice none 0 0) (.slice none 0 0)) 81 ∧ w1.heap.size ≤ x6 ∧ LsV w' (.slice oa T.out.length oc) T.out ∧ LsV w' (.slice ca T.cells.length cc) T.cells ∧ Nw w1 (.slice oa T.out.length oc) ∧ Nw w1 (.slice ca T.cells.length cc) ∧ NF (.slice oa T.out.length oc) [x6] ∧ NF (.slice ca T.cells.length cc) [x6] ∧ Keep [] w1 w' ∧
  Sub [(0, .pointer (some ⟨c, 0, none⟩)), (6, .pointer (some ⟨x6, 0, none⟩)), (20, .agg (resC T.code (.slice oa T.out.length oc) (.slice ca T.cells.length cc)).toArray), (21, .int .i64 T.used), (22, .int .i64 T.fault)] σ') ?_ ?_
 ·rintro σ' w3 ⟨x6, oa, oc, ca, cc, hX3, hx6, ho, hc, no, nc, fo, fc, hk3, hsub⟩
  refine dr_sub hsub ?_
  refine dr_op 15 rfl (by decide +kernel) rfl rfl (opTo_storeN (resC T.code (.slice oa T.out.length oc) (.slice ca T.cells.length cc)) rfl rfl rfl rfl size_re hX3 (by simp [resC]) (resC_one _ _ _ _ _ _ _) ?_)
  intro w4 hs4 hk4 hX4
  rw [splice_whole (by rfl)] at hX4
  have hk14 : Keep [] w1 w4 := hk3.trB hk4 hx6
  refine ⟨fun _ => hk14, ?_⟩
  refine tk 16 ?_
  refine tk 17 ?_
  refine dr_done (by decide +kernel) ?_
  have hk04 := hk1.tr hk14
  have h4 := h.keep0 hk04
  have ho4 := ho.keepF hk4 fo
  have hc4 := hc.keepF hk4 fc
  have no4 : NF (.slice oa T.out.length oc) fw := h.nf no hk1.size
  have nc4 : NF (.slice ca T.cells.length cc) fw := h.nf nc hk1.size
  have hx6n : x6 ∉ fw := (h.fresh (Nat.le_trans hk1.size hx6)).1
  refine oC (refused_ret r3 hw.lt h4.k0 h4.ct (by omega)) ?_
  rintro r w5 (⟨h0, rfl, rfl⟩ | ⟨h0, rfl, fw5, h5, ht5⟩)
  rotate_left
  ·refine au ?_
   have e : toldB T = tellB wNo [T.fault] := by unfold toldB; rw [if_neg h0]
   rw [e]
   exact rn_ret Tryz.func66 (.inr (.inl ⟨rfl, rfl⟩)) ⟨rfl, CkTo.late hk04 (h4.tells h5 ht5)⟩
  have e : toldB T = tellB wTook [T.used] ++ resB T.code T.out T.cells := by unfold toldB; rw [if_pos h0]
  rw [e]
  refine au ?_
  refine pl_op rfl rfl (opTo_sliceN _ _ rfl rfl (slice_o1 T.used) ?_)
  intro w6 g hg hs6 hk6 hb6
  have h6 := h4.keep0 hk6
  refine pl_op rfl rfl (opTo_call (fst := []) (cap := []) rfl rfl rfl rfl (by decide +kernel) ((tell_ret wTook (by decide) (by decide) hw.lt h6.k0 h6.ct (lies_at rfl hb6) (fun b q n k he _ => by
   injection he with he
   injection he with he
   injection he with he _
   exact (h4.fresh (by omega)).1) (all64_1 r2) (by simp only [List.length_cons, List.length_nil]; omega)).mono ?_))
  rintro r w7 ⟨rfl, fw7, h7, ht7⟩
  have hX7 := ht7.1.blk (hk6.blk hX4 (by simp)) hx6n
  have ho7 := (ho4.keep0 hk6).keepF ht7.1 no4
  have hc7 := (hc4.keep0 hk6).keepF ht7.1 nc4
  have no7 := (ho4.keep0 hk6).nf no4 ht7.2
  have nc7 := (hc4.keep0 hk6).nf nc4 ht7.2
  obtain ⟨fw7', fd7, h7', hk67, hw7, hf7⟩ := h6.tells h7 ht7
  have hk7 := h6.ct.k0 h6.k0 ht7
  have tl := tellB_len (w := wTook) (by decide) (all64_1 r2)
  simp only [List.length_cons, List.length_nil] at tl
  refine au ?_
  refine rn_draw (fun w' => Keep [] w7 w') [4] hMix ?_
  have hS7 : Keep [] w7 w7.drew := (Keep.refl _ _).drew
  generalize w7.drew = w8 at *
  refine tk 0 ?_
  refine tk 1 ?_
  refine tk 2 ?_
  refine dr_val 3 (.agg (resC T.code (.slice oa T.out.length oc) (.slice ca T.cells.length cc)).toArray) rfl (by decide +kernel) rfl rfl (fun w9 hS9 => val_load (resC T.code (.slice oa T.out.length oc) (.slice ca T.cells.length cc)) hT rfl rfl rfl ((hS9.blk hX7 (by simp)).range (by rfl))) hS7 ?_
  refine dC 4 (result_ret r1 (ho7.keep0 hS7) (hc7.keep0 hS7) no7 nc7 ro rc hw.lt (hk7.tr hS7) (h7.keep0 hS7) (by simp only [List.length_append]; omega)) ?_
  rintro r w9 ⟨rfl, fw9, h9, ht9⟩
  refine ⟨fun h => absurd (by simp) h, ?_⟩
  refine dr_done (by decide +kernel) ?_
  rw [List.append_assoc] at h9
  exact rn_end Tryz.func66 (.inr (.inl ⟨rfl, rfl⟩)) ⟨rfl, CkTo.late (hk04.tr hk6) (h6.tells h9 ((ht7.tr0 hS7).tr ht9))⟩
 ·intro join
  refine dr_op2 9 14 rfl rfl (by decide +kernel) rfl rfl rfl rfl ?_ ?_
  ·refine opTo_call (fst := []) (cap := []) rfl rfl rfl rfl (by decide +kernel) ((hI hk02).mono ?_)
   rintro r w3 ⟨⟨ov, cv, rfl, ho, hc, no, nc⟩, hk3⟩
   obtain ⟨oa, oc, rfl⟩ := ho.1.form
   obtain ⟨ca, cc, rfl⟩ := hc.form
   refine ⟨fun _ => hS.tr hk3, ?_⟩
   refine tk 10 ?_
   refine tk 11 ?_
   refine tk 12 ?_
   refine tk 13 ?_
   refine dr_op 14 rfl (by decide +kernel) rfl rfl (opTo_allocN _ rfl zero_re ?_)
   intro w4 x6 hx6 hs4 hk4 hX4
   refine ⟨fun _ => (hS.tr hk3).tr hk4, ?_⟩
   have z12 := hS.size
   have z23 := hk3.size
   exact join _ w4 ⟨x6, oa, oc, ca, cc, hX4, by omega, ho.1.keep0 hk4, hc.keep0 hk4, fun b q n k he h0 => Nat.le_trans z12 (no b q n k he h0), fun b q n k he h0 => Nat.le_trans z12 (nc b q n k he h0), ho.1.nf (fp := []) (fun _ _ _ _ _ _ h => nomatch h) (fun k hk => .inr (by rw [List.mem_singleton.1 hk]; omega)), hc.nf (fp := []) (fun _ _ _ _ _ _ h => nomatch h) (fun k hk => .inr (by rw [List.mem_singleton.1 hk]; omega)), (hS.tr hk3).tr hk4, ⟨rfl, rfl, rfl, rfl, rfl, trivial⟩⟩
  ·refine opTo_allocN _ rfl zero_re ?_
   intro w3 x6 hx6 hs3 hk3 hX3
   refine ⟨fun _ => hS.tr hk3, ?_⟩
   refine dC 9 (hI (hk02.tr hk3)) ?_
   rintro r w4 ⟨⟨ov, cv, rfl, ho, hc, no, nc⟩, hk4⟩
   obtain ⟨oa, oc, rfl⟩ := ho.1.form
   obtain ⟨ca, cc, rfl⟩ := hc.form
   refine ⟨fun _ => (hS.tr hk3).tr hk4, ?_⟩
   refine tk 10 ?_
   refine tk 11 ?_
   refine tk 12 ?_
   refine tk 13 ?_
   have z12 := hS.size
   have z23 := hk3.size
   exact join _ w4 ⟨x6, oa, oc, ca, cc, hk4.blk hX3 (by simp), by omega, ho.1, hc, fun b q n k he h0 => Nat.le_trans (Nat.le_trans z12 z23) (no b q n k he h0), fun b q n k he h0 => Nat.le_trans (Nat.le_trans z12 z23) (nc b q n k he h0), fun b q n k he h0 hm => by have := no b q n k he h0; rw [List.mem_singleton.1 hm] at this; omega, fun b q n k he h0 hm => by have := nc b q n k he h0; rw [List.mem_singleton.1 hm] at this; omega, (hS.tr hk3).tr hk4, ⟨rfl, rfl, rfl, rfl, rfl, trivial⟩⟩
end
end
section
open Go.Proofs
abbrev TCp : Nat := 46
theorem size_strs : sizeOk Tryz.prog 22 1 = true := by kernel_rfl
theorem size_ints : sizeOk Tryz.prog 28 1 = true := by kernel_rfl
theorem built_s1 (n : Int) : Tryz.prog.built 88 [(0, .int .i64 1), (1, .int .i64 n)] = some (spC (1, n, 0, 0)).toArray := by kernel_rfl
theorem built_s2 (m : Nat) : Tryz.prog.built 88 [(0, .int .i64 2), (3, .int .u64 (m : Nat))] = some (spC (2, 0, 0, m)).toArray := by kernel_rfl
theorem built_s3 (n k : Int) (m : Nat) : Tryz.prog.built 88 [(0, .int .i64 3), (1, .int .i64 n), (2, .int .i64 k), (3, .int .u64 (m : Nat))] = some (spC (3, n, k, m)).toArray := by kernel_rfl
theorem conv_64 : convOk Tryz.prog 2 86 .u64 = true := by decide +kernel
theorem wrapU (n : Int) : IntKind.u64.wrap n = ((u64I n : Nat) : Int) := by
 rw [IntKind.wrap_u64]
 unfold u64I
 omega
section
variable {w00 w : World} {c d x1 : Nat} {fw fd : List Nat} {L : List UInt8} {s : Ds}
theorem ord1_ret (h : Ck w00 w c d fw fd L s) (hb : Blk w x1 [.pointer (some ⟨c, 0, none⟩)] TCp) (nv : Value) : Ret Tryz.prog 59 [nv, .pointer (some ⟨x1, 0, none⟩)] w fun r w' => r = .tuple #[] ∧ CkTo w00 w w' c d fw fd L { s with txt := [] } := by
 obtain ⟨tv, iv, lv, fl, hD, hfd⟩ := h.dk
 refine ret_of 9 Tryz.func59 rfl rfl (by simp) ?_
 refine lB hb ?_
 refine au ?_
 refine pl_val _ rfl rfl (val_load1 hT rfl rfl rfl (h.ct.desk.1)) ?_
 refine au ?_
 refine pl_op rfl rfl (opTo_storeN [.slice none 0 0] rfl rfl rfl rfl size_strs hD.bk (by simp) (one1 rfl) ?_)
 intro w1 hs1 hk1 hd1
 have hd1' : Blk w1 d [.slice none 0 0, iv, lv] TD := hd1
 obtain ⟨hD1, ht1⟩ := hD.putT (t := []) (Keep.refl _ _) (Own.nil w _ TS 1) (fun k hk => by simp [obs, Value.ownBlock] at hk) hk1 hd1'
 rw [← hfd] at ht1
 refine au ?_
 exact rn_end Tryz.func59 (.inr (.inl ⟨rfl, rfl⟩)) ⟨rfl, h.turns ⟨_, _, _, _, hD1, rfl⟩ ht1⟩
theorem ord2_ret (h : Ck w00 w c d fw fd L s) (hb : Blk w x1 [.pointer (some ⟨c, 0, none⟩)] TCp) {nv : Value} {n : List Int} (hn : RowL w w00.heap.size nv n) (hnf : ∀ k ∈ obs nv, k ∉ fw ∧ k ∉ fd) : Ret Tryz.prog 60 [nv, .pointer (some ⟨x1, 0, none⟩)] w fun r w' => r = .tuple #[] ∧ ∃ fd', Ck w00 w' c d fw fd' L { s with inp := n } ∧ Keep fd w w' ∧ ∀ k ∈ fd', k ∈ fd ∨ k ∈ obs nv := by
 obtain ⟨tv, iv, lv, fl, hD, hfd⟩ := h.dk
 obtain ⟨na, nc, hnv⟩ := hn.form
 refine ret_of 10 Tryz.func60 rfl rfl (by simp) ?_
 refine lB hb ?_
 refine au ?_
 refine pl_val _ rfl rfl (val_load1 hT rfl rfl rfl (h.ct.desk.1)) ?_
 refine au ?_
 refine pl_op rfl rfl (opTo_storeN [nv] rfl rfl rfl (by rw [hnv]; rfl) size_ints hD.bk (by simp) (one1 (by rw [hnv]; rfl)) ?_)
 intro w1 hs1 hk1 hd1
 have hd1' : Blk w1 d [tv, nv, lv] TD := hd1
 obtain ⟨hD1, hk1'⟩ := hD.putI hn (fun k hk hm => (hnf k hk).2 (by rw [hfd]; exact mem_fpK.2 (.inr (.inr (.inr hm))))) hk1 hd1'
 rw [← hfd] at hk1'
 have hsub : ∀ k ∈ fpK d tv nv fl, k ∈ fd ∨ k ∈ obs nv := fun k hk => by
  rw [hfd]
  rcases mem_fpK.1 hk with h1 | h1 | h1 | h1
  ·exact .inl (mem_fpK.2 (.inl h1))
  ·exact .inl (mem_fpK.2 (.inr (.inl h1)))
  ·exact .inr h1
  ·exact .inl (mem_fpK.2 (.inr (.inr (.inr h1))))
 refine au ?_
 refine rn_end Tryz.func60 (.inr (.inl ⟨rfl, rfl⟩)) ⟨rfl, _, ⟨h.k0.trans hk1' fun k hm => .inr (h.dk.lt k hm).1, h.ct.keep hk1' h.dj, ⟨_, _, _, _, hD1, rfl⟩, fun k hk hm => ?_⟩, hk1', hsub⟩
 rcases hsub k hm with h1 | h1
 ·exact h.dj k hk h1
 ·exact (hnf k h1).1 hk
theorem ord3_ret (hw : Lw w00) (h : Ck w00 w c d fw fd L s) (hL : L.length ≤ 700000000000) (htx : txtN s.txt ≤ 100000) (hin : s.inp.length ≤ 100000) (hb : Blk w x1 [.pointer (some ⟨c, 0, none⟩)] TCp) (nv : Value) : Ret Tryz.prog 61 [nv, .pointer (some ⟨x1, 0, none⟩)] w fun r w' => r = .tuple #[] ∧ CkTo w00 w w' c d fw fd (L ++ (withP s (bootD s)).2) (withP s (bootD s)).1 := by
 refine ret_of 7 Tryz.func61 rfl rfl (by simp) ?_
 refine lB hb ?_
 refine lB hb ?_
 refine oC (program_ret (g := 63) (fst := [.pointer (some ⟨c, 0, none⟩)]) (cap := []) (bootD s) (by decide +kernel) hw h hL htx fun vs body w1 x F hX h1 _ hP hF => boot_ret hw h1 hL hin hP hF (parse_good hX).1) ?_
 rintro r w1 ⟨rfl, h1⟩
 refine au ?_
 exact rn_end Tryz.func61 (.inr (.inl ⟨rfl, rfl⟩)) ⟨rfl, h1⟩
theorem row_at {nv : Value} {n : List Int} {B : Nat} (hn : RowL w B nv n) {i : Nat} (hi : i < n.length) : ∃ g cap, nv = .slice (some ⟨g, 0, none⟩) n.length cap ∧ w.cell? ⟨g, i, none⟩ = some (.int .i64 (n.getD i 0)) ∧ g < w.heap.size := by
 obtain ⟨g, cap, h1, h2⟩ := hn.at (i := i) (x := n.getD i 0) (by rw [List.getElem?_eq_getElem hi, List.getD_eq_getElem?_getD, List.getElem?_eq_getElem hi]; rfl)
 refine ⟨g, cap, h1, h2, ?_⟩
 exact (hn.lt g (mem_obs.2 (by rw [h1]; rfl))).2
theorem ord4i_ret (hw : Lw w00) (h : Ck w00 w c d fw fd L s) (hok : DsOk s) (hL : L.length ≤ 700000000000) (hin : s.inp.length ≤ 100000) (hb : Blk w x1 [.pointer (some ⟨c, 0, none⟩)] TCp) {x2 : Nat} {nv : Value} {n : List Int} {B : Nat} (hn : RowL w B nv n) (h1 : n.length = 1) (hb2 : Blk w x2 [nv] 28)
  {F : Nat → Prop} {x : Value} {vs : List VarT} {body : List ST} (hp : ProgV F w x vs body) (hF : In F w) (hpf : progFault vs body = 0) (hlo : longSs body) : Ret Tryz.prog 65 [x, .pointer (some ⟨x1, 0, none⟩), .pointer (some ⟨x2, 0, none⟩)] w fun r w' => r = .tuple #[] ∧ CkTo w00 w w' c d fw fd (L ++ (idealD s (n.getD 0 0) vs body).2) (idealD s (n.getD 0 0) vs body).1 := by
 have hp0 := hp
 obtain ⟨vv, bv, rfl, hv, hbb⟩ := hp
 obtain ⟨av, capv, rfl⟩ := hv.form
 obtain ⟨ab, capb, rfl⟩ := hbb.form
 obtain ⟨g, cap, hnv, hcell, hg⟩ := row_at hn (i := 0) (by omega)
 rw [h1] at hnv
 refine ret_of 10 Tryz.func65 rfl rfl (by simp) ?_
 refine au ?_
 refine pl_op rfl rfl (opTo_boxN [.slice av vs.length capv, .slice ab body.length capb] rfl rfl rfl ?_)
 intro w1 x3 hx3 hs1 hk1 hX1
 refine au ?_
 refine rn_draw (fun w' => Keep [] w1 w') [5] hMix ?_
 have hS : Keep [] w1 w1.drew := (Keep.refl _ _).drew
 generalize w1.drew = w2 at *
 have hk02 := hk1.tr hS
 subst hnv
 refine dr_val 0 (.pointer (some ⟨c, 0, none⟩)) rfl (by decide +kernel) rfl rfl (fun w9 hS9 => val_load1 hT rfl rfl rfl (((hk1.tr hS9).blk hb (by simp)).cell rfl)) hS ?_
 refine dr_val 1 (.agg #[.slice av vs.length capv, .slice ab body.length capb]) rfl (by decide +kernel) rfl rfl (fun w9 hS9 => val_load [.slice av vs.length capv, .slice ab body.length capb] hT rfl rfl rfl ((hS9.blk hX1 (by simp)).range (by rfl))) hS ?_
 refine dr_val 2 (.slice (some ⟨g, 0, none⟩) 1 cap) rfl (by decide +kernel) rfl rfl (fun w9 hS9 => val_load1 hT rfl rfl rfl (((hk1.tr hS9).blk hb2 (by simp)).cell rfl)) hS ?_
 refine dr_any 3 _ rfl (by decide +kernel) rfl rfl (fun w => val_index (b := g) (q := 0) (sz := 1) (len := 1) 0 hT rfl rfl rfl rfl rfl (by decide) w) ?_
 refine dr_val 4 (.int .i64 (n.getD 0 0)) rfl (by decide +kernel) rfl rfl (fun w9 hS9 => val_load1 hT rfl rfl rfl (cell_keep (hk1.tr hS9) hcell)) hS ?_
 refine dC 5 (ideal_ret (n.getD 0 0) hw (h.keep0 hk02) hok hL hin (hp0.keep hk02 hF.stays) (hF.keep hk02) hpf hlo) ?_
 rintro r w3 ⟨rfl, h3⟩
 refine ⟨fun h => absurd (by simp) h, ?_⟩
 refine dr_done (by decide +kernel) ?_
 exact rn_end Tryz.func65 (.inr (.inl ⟨rfl, rfl⟩)) ⟨rfl, CkTo.late hk02 h3⟩
theorem ord4_ret (hw : Lw w00) (h : Ck w00 w c d fw fd L s) (hok : DsOk s) (hL : L.length ≤ 700000000000) (htx : txtN s.txt ≤ 100000) (hin : s.inp.length ≤ 100000) (hb : Blk w x1 [.pointer (some ⟨c, 0, none⟩)] TCp) {nv : Value} {n : List Int} {B : Nat} (hn : RowL w B nv n) (h1 : n.length = 1) : Ret Tryz.prog 64 [nv, .pointer (some ⟨x1, 0, none⟩)] w fun r w' => r = .tuple #[] ∧ CkTo w00 w w' c d fw fd (L ++ (withP s (idealD s (n.getD 0 0))).2) (withP s (idealD s (n.getD 0 0))).1 := by
 obtain ⟨na, nc, hnv⟩ := hn.form
 refine ret_of 6 Tryz.func64 rfl rfl (by simp) ?_
 refine au ?_
 refine pl_op rfl rfl (opTo_boxN [nv] rfl rfl (by rw [hnv]; rfl) ?_)
 intro w1 x2 hx2 hs1 hk1 hX1
 refine lB (hk1.blk hb (by simp)) ?_
 refine oC (program_ret (g := 65) (fst := []) (cap := [.pointer (some ⟨x1, 0, none⟩), .pointer (some ⟨x2, 0, none⟩)]) (idealD s (n.getD 0 0)) (by decide +kernel) hw (h.keep0 hk1) hL htx fun vs body w2 x F hX h2 hk2 hP hF => ord4i_ret hw h2 hok hL hin ((hk1.tr hk2).blk hb (by simp)) (hn.keep (hk1.tr hk2) fun _ _ => by simp) h1 (hk2.blk hX1 (by simp)) hP hF (parse_good hX).1 (parse_good hX).2) ?_
 rintro r w2 ⟨rfl, h2⟩
 refine au ?_
 exact rn_end Tryz.func64 (.inr (.inl ⟨rfl, rfl⟩)) ⟨rfl, CkTo.late hk1 h2⟩
theorem ord5_ret (hw : Lw w00) (h : Ck w00 w c d fw fd L s) (hok : DsOk s) (hL : L.length ≤ 700000000000) (hcnt : s.cnt ≤ 300000) (hlif : s.lif.isSome = true) (hb : Blk w x1 [.pointer (some ⟨c, 0, none⟩)] TCp) {nv : Value} {n : List Int} {B : Nat} (hn : RowL w B nv n) (h1 : n.length = 1) : Ret Tryz.prog 67 [nv, .pointer (some ⟨x1, 0, none⟩)] w fun r w' => r = .tuple #[] ∧ CkTo w00 w w' c d fw fd (L ++ (stepD s (1, n.getD 0 0, 0, 0)).2) (stepD s (1, n.getD 0 0, 0, 0)).1 := by
 obtain ⟨g, cap, hnv, hcell, hg⟩ := row_at hn (i := 0) (by omega)
 rw [h1] at hnv
 subst hnv
 refine ret_of 9 Tryz.func67 rfl rfl (by simp) ?_
 refine rn_draw (fun w' => Keep [] w w') [5] hMix ?_
 have hS : Keep [] w w.drew := (Keep.refl _ _).drew
 generalize w.drew = w2 at *
 refine dr_val 0 (.pointer (some ⟨c, 0, none⟩)) rfl (by decide +kernel) rfl rfl (fun w9 hS9 => val_load1 hT rfl rfl rfl ((Keep.blk hS9 hb (by simp)).cell rfl)) hS ?_
 refine tk 1 ?_
 refine dr_any 2 _ rfl (by decide +kernel) rfl rfl (fun w => val_index (b := g) (q := 0) (sz := 1) (len := 1) 0 hT rfl rfl rfl rfl rfl (by decide) w) ?_
 refine dr_val 3 (.int .i64 (n.getD 0 0)) rfl (by decide +kernel) rfl rfl (fun w9 hS9 => val_load1 hT rfl rfl rfl (cell_keep hS9 hcell)) hS ?_
 refine dr_any 4 _ rfl (by decide +kernel) rfl rfl (fun w => val_build _ rfl rfl (built_s1 (n.getD 0 0)) w) ?_
 refine dC 5 (step_ret (1, n.getD 0 0, 0, 0) hw (h.keep0 hS) hok hL hcnt hlif (show (0 : Int) < 9223372036854775808 by decide)) ?_
 rintro r w3 ⟨rfl, h3⟩
 refine ⟨fun h => absurd (by simp) h, ?_⟩
 refine dr_done (by decide +kernel) ?_
 exact rn_end Tryz.func67 (.inr (.inl ⟨rfl, rfl⟩)) ⟨rfl, CkTo.late hS h3⟩
theorem ord6_ret (hw : Lw w00) (h : Ck w00 w c d fw fd L s) (hok : DsOk s) (hL : L.length ≤ 700000000000) (hcnt : s.cnt ≤ 300000) (hlif : s.lif.isSome = true) (hb : Blk w x1 [.pointer (some ⟨c, 0, none⟩)] TCp) {nv : Value} {n : List Int} {B : Nat} (hn : RowL w B nv n) (h1 : n.length = 1) : Ret Tryz.prog 69 [nv, .pointer (some ⟨x1, 0, none⟩)] w fun r w' => r = .tuple #[] ∧ CkTo w00 w w' c d fw fd (L ++ (stepD s (2, 0, 0, u64I (n.getD 0 0))).2) (stepD s (2, 0, 0, u64I (n.getD 0 0))).1 := by
 obtain ⟨g, cap, hnv, hcell, hg⟩ := row_at hn (i := 0) (by omega)
 rw [h1] at hnv
 subst hnv
 refine ret_of 10 Tryz.func69 rfl rfl (by simp) ?_
 refine rn_draw (fun w' => Keep [] w w') [6] hMix ?_
 have hS : Keep [] w w.drew := (Keep.refl _ _).drew
 generalize w.drew = w2 at *
 refine dr_val 0 (.pointer (some ⟨c, 0, none⟩)) rfl (by decide +kernel) rfl rfl (fun w9 hS9 => val_load1 hT rfl rfl rfl ((Keep.blk hS9 hb (by simp)).cell rfl)) hS ?_
 refine tk 1 ?_
 refine dr_any 2 _ rfl (by decide +kernel) rfl rfl (fun w => val_index (b := g) (q := 0) (sz := 1) (len := 1) 0 hT rfl rfl rfl rfl rfl (by decide) w) ?_
 refine dr_val 3 (.int .i64 (n.getD 0 0)) rfl (by decide +kernel) rfl rfl (fun w9 hS9 => val_load1 hT rfl rfl rfl (cell_keep hS9 hcell)) hS ?_
 refine dr_any 4 (.int .u64 ((u64I (n.getD 0 0) : Nat) : Int)) rfl (by decide +kernel) rfl rfl (fun w => val_conv .i64 .u64 _ _ rfl rfl conv_64 (wrapU _) w) ?_
 refine dr_any 5 _ rfl (by decide +kernel) rfl rfl (fun w => val_build _ rfl rfl (built_s2 (u64I (n.getD 0 0))) w) ?_
 refine dC 6 (step_ret (2, 0, 0, u64I (n.getD 0 0)) hw (h.keep0 hS) hok hL hcnt hlif (show (0 : Int) < 9223372036854775808 by decide)) ?_
 rintro r w3 ⟨rfl, h3⟩
 refine ⟨fun h => absurd (by simp) h, ?_⟩
 refine dr_done (by decide +kernel) ?_
 exact rn_end Tryz.func69 (.inr (.inl ⟨rfl, rfl⟩)) ⟨rfl, CkTo.late hS h3⟩
theorem ord7_ret (hw : Lw w00) (h : Ck w00 w c d fw fd L s) (hok : DsOk s) (hL : L.length ≤ 700000000000) (hcnt : s.cnt ≤ 300000) (hlif : s.lif.isSome = true) (hb : Blk w x1 [.pointer (some ⟨c, 0, none⟩)] TCp) {nv : Value} {n : List Int} {B : Nat} (hn : RowL w B nv n) (h1 : n.length = 3) (h64 : all64 n) : Ret Tryz.prog 70 [nv, .pointer (some ⟨x1, 0, none⟩)] w fun r w' => r = .tuple #[] ∧ CkTo w00 w w' c d fw fd (L ++ (stepD s (3, n.getD 0 0, n.getD 1 0, u64I (n.getD 2 0))).2) (stepD s (3, n.getD 0 0, n.getD 1 0, u64I (n.getD 2 0))).1 := by
 obtain ⟨g, cap, hnv, hcell, hg⟩ := row_at hn (i := 0) (by omega)
 obtain ⟨_, _, hnv1, hcell1, _⟩ := row_at hn (i := 1) (by omega)
 obtain ⟨_, _, hnv2, hcell2, _⟩ := row_at hn (i := 2) (by omega)
 rw [hnv1] at hnv hnv2
 cases hnv
 cases hnv2
 rw [h1] at hnv1
 subst hnv1
 have hk64 := in64_getD h64 1
 refine ret_of 16 Tryz.func70 rfl rfl (by simp) ?_
 refine rn_draw (fun w' => Keep [] w w') [12] hMix ?_
 have hS : Keep [] w w.drew := (Keep.refl _ _).drew
 generalize w.drew = w2 at *
 refine dr_val 0 (.pointer (some ⟨c, 0, none⟩)) rfl (by decide +kernel) rfl rfl (fun w9 hS9 => val_load1 hT rfl rfl rfl ((Keep.blk hS9 hb (by simp)).cell rfl)) hS ?_
 refine tk 1 ?_
 refine dr_any 2 _ rfl (by decide +kernel) rfl rfl (fun w => val_index (b := g) (q := 0) (sz := 1) (len := 3) 0 hT rfl rfl rfl rfl rfl (by decide) w) ?_
 refine dr_val 3 (.int .i64 (n.getD 0 0)) rfl (by decide +kernel) rfl rfl (fun w9 hS9 => val_load1 hT rfl rfl rfl (cell_keep hS9 hcell)) hS ?_
 refine tk 4 ?_
 refine dr_any 5 _ rfl (by decide +kernel) rfl rfl (fun w => val_index (b := g) (q := 0) (sz := 1) (len := 3) 1 hT rfl rfl rfl rfl rfl (by decide) w) ?_
 refine dr_val 6 (.int .i64 (n.getD 1 0)) rfl (by decide +kernel) rfl rfl (fun w9 hS9 => val_load1 hT rfl rfl rfl (cell_keep hS9 hcell1)) hS ?_
 refine tk 7 ?_
 refine dr_any 8 _ rfl (by decide +kernel) rfl rfl (fun w => val_index (b := g) (q := 0) (sz := 1) (len := 3) 2 hT rfl rfl rfl rfl rfl (by decide) w) ?_
 refine dr_val 9 (.int .i64 (n.getD 2 0)) rfl (by decide +kernel) rfl rfl (fun w9 hS9 => val_load1 hT rfl rfl rfl (cell_keep hS9 hcell2)) hS ?_
 refine dr_any 10 (.int .u64 ((u64I (n.getD 2 0) : Nat) : Int)) rfl (by decide +kernel) rfl rfl (fun w => val_conv .i64 .u64 _ _ rfl rfl conv_64 (wrapU _) w) ?_
 refine dr_any 11 _ rfl (by decide +kernel) rfl rfl (fun w => val_build _ rfl rfl (built_s3 (n.getD 0 0) (n.getD 1 0) (u64I (n.getD 2 0))) w) ?_
 refine dC 12 (step_ret (3, n.getD 0 0, n.getD 1 0, u64I (n.getD 2 0)) hw (h.keep0 hS) hok hL hcnt hlif (by have := hk64.2; simp only; omega)) ?_
 rintro r w3 ⟨rfl, h3⟩
 refine ⟨fun h => absurd (by simp) h, ?_⟩
 refine dr_done (by decide +kernel) ?_
 exact rn_end Tryz.func70 (.inr (.inl ⟨rfl, rfl⟩)) ⟨rfl, CkTo.late hS h3⟩
theorem codeB_64 {m : Md} {p : Pr} (hm : m.state ≤ 14) (hp : p.2 = false) : in64 (codeB m p) := by
 rw [codeB_nat m p hp]
 unfold in64
 split
 ·omega
 ·split <;> omega
theorem ord8_ret (hw : Lw w00) (h : Ck w00 w c d fw fd L s) (hok : DsOk s) (hL : L.length ≤ 700000000000) (hcnt : s.cnt ≤ 300000) (hlif : s.lif.isSome = true) (hb : Blk w x1 [.pointer (some ⟨c, 0, none⟩)] TCp) (hx1 : x1 ∉ fw) (nv : Value) : Ret Tryz.prog 71 [nv, .pointer (some ⟨x1, 0, none⟩)] w fun r w' => r = .tuple #[] ∧ CkTo w00 w w' c d fw fd (L ++ (nowD s).2) (nowD s).1 := by
 obtain ⟨⟨vs, body, inp, x⟩, hx⟩ := Option.isSome_iff_exists.1 hlif
 obtain ⟨tv, iv, lv, fl, hD, hfd⟩ := h.dk
 have hlf := hD.lf
 rw [hx] at hlf
 obtain ⟨y, BL, z, rfl, hBL, hLV, hzx, hZ⟩ := hlf.inv hok hx
 obtain ⟨hpf, hlo, hil, hi64, g, hg, hInv⟩ := hok.lf _ _ _ _ hx
 obtain ⟨hsz, hvl⟩ := prog_size hpf
 obtain ⟨bn1, bn2, bn3⟩ := hZ.bnd hpf hsz
 have hst := hZ.stat hpf hsz
 obtain ⟨rc, ro⟩ := hInv.rg hlo hi64
 rw [hzx] at bn1 bn2 bn3 hst
 have e : nowD s = (s, resB (codeB x.m x.p) x.p.1 x.m.cells) := by
  unfold nowD
  rw [hx]
 rw [e]
 refine ret_of 15 Tryz.func71 rfl rfl (by simp) ?_
 have hdf : d ∉ fw := fun hm => h.dj d hm (by rw [hfd]; exact mem_fpK.2 (.inl rfl))
 refine rn_draw (fun w' => Blk w' x1 [.pointer (some ⟨c, 0, none⟩)] TCp ∧ w'.cell? ⟨c, 0, none⟩ = some (.pointer (some ⟨d, 0, none⟩)) ∧ Blk w' d [tv, iv, .pointer (some ⟨y, 0, none⟩)] TD) [] hMix ?_
 have hS : Keep [] w w.drew := (Keep.refl _ _).drew
 generalize w.drew = w2 at *
 have hS2 : Blk w2 x1 [.pointer (some ⟨c, 0, none⟩)] TCp ∧ w2.cell? ⟨c, 0, none⟩ = some (.pointer (some ⟨d, 0, none⟩)) ∧ Blk w2 d [tv, iv, .pointer (some ⟨y, 0, none⟩)] TD := ⟨hS.blk hb (by simp), (h.ct.keep0 hS).desk.1, hS.blk hD.bk (by simp)⟩
 refine dr_val 0 (.pointer (some ⟨c, 0, none⟩)) rfl (by decide +kernel) rfl rfl (fun w9 hS9 => val_load1 hT rfl rfl rfl (hS9.1.cell rfl)) hS2 ?_
 refine tk 1 ?_
 refine tk 2 ?_
 refine dr_val 3 (.pointer (some ⟨c, 0, none⟩)) rfl (by decide +kernel) rfl rfl (fun w9 hS9 => val_load1 hT rfl rfl rfl (hS9.1.cell rfl)) hS2 ?_
 refine tk 4 ?_
 refine tk 5 ?_
 refine dr_val 6 (.pointer (some ⟨d, 0, none⟩)) rfl (by decide +kernel) rfl rfl (fun w9 hS9 => val_load1 hT rfl rfl rfl hS9.2.1) hS2 ?_
 refine tk 7 ?_
 refine tk 8 ?_
 refine dr_val 9 (.pointer (some ⟨y, 0, none⟩)) rfl (by decide +kernel) rfl rfl (fun w9 hS9 => val_load1 hT rfl rfl rfl (hS9.2.2.cell rfl)) hS2 ?_
 refine dC 10 (lifeNow_ret (LV.keep hLV hS fun k hk => by cases hk) hZ hcnt hpf hsz) ?_
 rintro r w3 ⟨⟨ov, cv, rfl, ho, hc, no, nc⟩, hk3⟩
 have h3 := h.keep0 (hS.tr hk3)
 have hb3 := hk3.blk hS2.1 (by simp)
 have hd3 := hk3.blk hS2.2.2 (by simp)
 refine ⟨fun _ => ⟨hb3, h3.ct.desk.1, hd3⟩, ?_⟩
 rw [hzx] at ho hc ⊢
 refine dC 11 (result_ret (codeB_64 hst bn3) ho.1 hc (h.nf no hS.size) (h.nf nc hS.size) ro rc hw.lt h3.k0 h3.ct (by omega)) ?_
 rintro r w4 ⟨rfl, fw4, h4, ht4⟩
 refine ⟨fun _ => ⟨ht4.1.blk hb3 hx1, h4.desk.1, ht4.1.blk hd3 hdf⟩, ?_⟩
 refine dr_done (by decide +kernel) ?_
 exact rn_end Tryz.func71 (.inr (.inl ⟨rfl, rfl⟩)) ⟨rfl, CkTo.late (hS.tr hk3) (h3.tells h4 ht4)⟩
end
end
section
open Go.Proofs
def ordD (s : Ds) (n : List Int) : Nat → Ds × List UInt8
 | 0 => ({ s with txt := [] }, [])
 | 1 => ({ s with inp := n }, [])
 | 2 => withP s (bootD s)
 | 3 => withP s (idealD s (n.getD 0 0))
 | 4 => stepD s (1, n.getD 0 0, 0, 0)
 | 5 => stepD s (2, 0, 0, u64I (n.getD 0 0))
 | 6 => stepD s (3, n.getD 0 0, n.getD 1 0, u64I (n.getD 2 0))
 | _ => nowD s
theorem isOr_yes {wd : List UInt8} {n : List Int} {liv : Bool} {i : Nat} (h : isOr wd n.length liv i = true) : wd = ordW i ∧ (ordK i = -1 ∨ ordK i = (n.length : Int)) ∧ (liv = true ∨ ordL i = false) := by
 simp only [isOr, Bool.and_eq_true, beq_iff_eq, decide_eq_true_eq, Bool.or_eq_true, Bool.not_eq_true'] at h
 exact ⟨h.1.symm, h.2.1, h.2.2⟩
theorem order_yes {s : Ds} {wd : List UInt8} {n : List Int} {j : Nat} (hj : j < 8) (h : isOr wd n.length s.lif.isSome j = true) : orderD s wd n = some (ordD s n j) := by
 obtain ⟨rfl, h2, h3⟩ := isOr_yes h
 have : j = 0 ∨ j = 1 ∨ j = 2 ∨ j = 3 ∨ j = 4 ∨ j = 5 ∨ j = 6 ∨ j = 7 := by omega
 have hs : ordL j = true → s.lif.isNone = false := fun hl => by
  rcases h3 with h3 | h3
  ·cases ho : s.lif with
   | none => rw [ho] at h3; cases h3
   | some x => rfl
  ·rw [hl] at h3; cases h3
 unfold orderD
 rcases this with rfl | rfl | rfl | rfl | rfl | rfl | rfl | rfl
 all_goals simp only [ordK] at h2
 ·have : n.length = 0 := by omega
  rw [if_pos ⟨rfl, this⟩]
  rfl
 ·rw [if_neg (fun h => absurd h.1 (by decide)), if_pos (show ordW 1 = wInput from rfl)]
  rfl
 ·have : n.length = 0 := by omega
  rw [if_neg (fun h => absurd h.1 (by decide)), if_neg (by decide), if_pos ⟨rfl, this⟩]
  rfl
 ·have : n.length = 1 := by omega
  rw [if_neg (fun h => absurd h.1 (by decide)), if_neg (by decide), if_neg (fun h => absurd h.1 (by decide)), if_pos ⟨rfl, this⟩]
  rfl
 ·have : n.length = 1 := by omega
  rw [if_neg (fun h => absurd h.1 (by decide)), if_neg (by decide), if_neg (fun h => absurd h.1 (by decide)), if_neg (fun h => absurd h.1 (by decide)), if_neg (by rw [hs rfl]; decide), if_pos ⟨rfl, this⟩]
  rfl
 ·have : n.length = 1 := by omega
  rw [if_neg (fun h => absurd h.1 (by decide)), if_neg (by decide), if_neg (fun h => absurd h.1 (by decide)), if_neg (fun h => absurd h.1 (by decide)), if_neg (by rw [hs rfl]; decide), if_neg (fun h => absurd h.1 (by decide)), if_pos ⟨rfl, this⟩]
  rfl
 ·have : n.length = 3 := by omega
  rw [if_neg (fun h => absurd h.1 (by decide)), if_neg (by decide), if_neg (fun h => absurd h.1 (by decide)), if_neg (fun h => absurd h.1 (by decide)), if_neg (by rw [hs rfl]; decide), if_neg (fun h => absurd h.1 (by decide)), if_neg (fun h => absurd h.1 (by decide)), if_pos ⟨rfl, this⟩]
  rfl
 ·have : n.length = 0 := by omega
  rw [if_neg (fun h => absurd h.1 (by decide)), if_neg (by decide), if_neg (fun h => absurd h.1 (by decide)), if_neg (fun h => absurd h.1 (by decide)), if_neg (by rw [hs rfl]; decide), if_neg (fun h => absurd h.1 (by decide)), if_neg (fun h => absurd h.1 (by decide)), if_neg (fun h => absurd h.1 (by decide)), if_pos ⟨rfl, this⟩]
  rfl
theorem isOr_mk {wd : List UInt8} {n : List Int} {liv : Bool} {i : Nat} (h1 : wd = ordW i) (h2 : ordK i = -1 ∨ ordK i = (n.length : Int)) (h3 : liv = true ∨ ordL i = false) : isOr wd n.length liv i = true := by
 subst h1
 unfold isOr
 rw [decide_eq_true h2]
 rcases h3 with rfl | h3
 ·simp
 ·rw [h3]; simp
theorem order_no {s : Ds} {wd : List UInt8} {n : List Int} (h : ∀ i < 8, isOr wd n.length s.lif.isSome i = false) : orderD s wd n = none := by
 have no : ∀ i < 8, (wd = ordW i → (ordK i = -1 ∨ ordK i = (n.length : Int)) → (s.lif.isSome = true ∨ ordL i = false) → False) := fun i hi h1 h2 h3 => by
  have := h i hi
  rw [isOr_mk h1 h2 h3] at this
  cases this
 unfold orderD
 rw [if_neg fun h => no 0 (by decide) h.1 (.inr (by simp only [ordK]; omega)) (.inr rfl), if_neg fun h : wd = wInput => no 1 (by decide) h (.inl rfl) (.inr rfl), if_neg fun h => no 2 (by decide) h.1 (.inr (by simp only [ordK]; omega)) (.inr rfl), if_neg fun h => no 3 (by decide) h.1 (.inr (by simp only [ordK]; omega)) (.inr rfl)]
 cases ho : s.lif with
 | none => rfl
 | some x =>
  have hl : s.lif.isSome = true := by rw [ho]; rfl
  rw [if_neg (by simp), if_neg fun h => no 4 (by decide) h.1 (.inr (by simp only [ordK]; omega)) (.inl hl), if_neg fun h => no 5 (by decide) h.1 (.inr (by simp only [ordK]; omega)) (.inl hl), if_neg fun h => no 6 (by decide) h.1 (.inr (by simp only [ordK]; omega)) (.inl hl), if_neg fun h => no 7 (by decide) h.1 (.inr (by simp only [ordK]; omega)) (.inl hl)]
theorem zero_li : ((Tryz.prog.info? 28).bind (·.zero)).map (·.cells) = some [Value.slice none 0 0].toArray := by kernel_rfl
theorem LifV.form {B : Nat} {w : World} {lv : Value} {fl : List Nat} {cnt : Nat} {o : Option (List VarT × List ST × List Int × Lf)} (h : LifV B w lv fl cnt o) : if o.isSome then ∃ ad, lv = .pointer (some ad) else lv = .pointer none := by
 cases o with
 | none => exact h.1
 | some q =>
  obtain ⟨y, _, _, h1, _⟩ := h
  exact ⟨_, h1⟩
section
variable {w00 w : World} {c d : Nat} {fw fd : List Nat} {L : List UInt8} {s : Ds}
theorem obey_ret (wd : List UInt8) {bv : Value} {r : List (List UInt8)} (hw : Lw w00) (h : Ck w00 w c d fw fd L s) (hok : DsOk s) (hL : L.length ≤ 700000000000) (htx : txtN s.txt ≤ 100000) (hin : s.inp.length ≤ 100000) (hcnt : s.cnt ≤ 300000) (hr : StV w bv r) (hrl : r.length ≤ 1000000) (hl : ∀ x ∈ r, x.length ≤ 1000000) :
  Ret Tryz.prog 24 [.pointer (some ⟨c, 0, none⟩), .string (str wd), bv] w fun q w' => ((numsOf r).bind (orderD s wd) = none ∧ q = .bool false ∧ Keep [] w w') ∨ ∃ y, (numsOf r).bind (orderD s wd) = some y ∧ q = .bool true ∧ CkTo w00 w w' c d fw fd (L ++ y.2) y.1 := by
 obtain ⟨tv, iv, lv, fl, hD, hfd⟩ := h.dk
 have hlv := hD.lf.form
 refine ret_of 32 Tryz.func24 rfl rfl (by simp) ?_
 refine au ?_
 refine pl_op rfl rfl (opTo_boxN [.pointer (some ⟨c, 0, none⟩)] rfl rfl rfl ?_)
 intro w1 x3 hx3 hs1 hk1 hX1
 refine pl_op rfl rfl (opTo_boxN [.string (str wd)] rfl rfl rfl ?_)
 intro w2 x4 hx4 hs2 hk2 hX2
 have hk02 := hk1.tr hk2
 refine oC (numbers_ret (hw.keep (h.k0.tr hk02)) (hr.keep0 hk02) hrl hl) ?_
 rintro q w3 ⟨hq, hk3⟩
 have hk03 := hk02.tr hk3
 have z02 := hk02.size
 have z03 := hk03.size
 cases hn : numsOf r with
 | none =>
  rw [hn] at hq
  have hq' : q = .tuple #[.slice none 0 0, .bool false] := hq
  subst hq'
  refine au ?_
  refine pl_op rfl rfl (opTo_allocN _ rfl zero_li ?_)
  intro w4 x7 hx7 hs4 hk4 hX4
  refine pl_op rfl rfl (opTo_storeN [.slice none 0 0] rfl rfl rfl rfl size_ints hX4 (by simp) (one1 rfl) ?_)
  intro w5 hs5 hk5 hX5
  refine au ?_
  exact rn_ret Tryz.func24 (.inl ⟨_, rfl, rfl⟩) (.inl ⟨rfl, rfl, (hk03.tr hk4).trB hk5 (by omega)⟩)
 | some n =>
  rw [hn] at hq
  obtain ⟨nv, hq', hrow⟩ := hq
  subst hq'
  obtain ⟨na, nc, hnv⟩ := hrow.form
  have hn64 := (numsOf_some hn).2
  refine au ?_
  refine pl_op rfl rfl (opTo_allocN _ rfl zero_li ?_)
  intro w4 x7 hx7 hs4 hk4 hX4
  refine pl_op rfl rfl (opTo_storeN [nv] rfl rfl rfl (by rw [hnv]; rfl) size_ints hX4 (by simp) (one1 (by rw [hnv]; rfl)) ?_)
  intro w5 hs5 hk5 hX5
  have hX5' : Blk w5 x7 [nv] 28 := hX5
  have hk35 : Keep [] w3 w5 := hk4.trB hk5 (by omega)
  have hk05 := hk03.tr hk35
  have hX35 := ((hk2.tr hk3).tr hk35).blk hX1 (by simp)
  have hX45 := (hk3.tr hk35).blk hX2 (by simp)
  refine lB hX35 ?_
  refine oC (orders_ret c w5) ?_
  rintro q w6 ⟨⟨x1, g, rfl, hb1, hg, hx1, hgl⟩, hk6⟩
  have hk06 := hk05.tr hk6
  refine au ?_
  obtain ⟨p0, v0, hcp, _, hfw⟩ := h.ct
  refine oC (findOr_ret (liv := s.lif.isSome) hg (hk6.blk hX45 (by simp)) (hk6.blk hX5' (by simp)) hnv (hk6.blk hX35 (by simp)) (hk06.blk hcp.bk (by simp)) (hk06.blk hD.bk (by simp)) hlv) ?_
  rintro q w7 ⟨hq, hk7⟩
  have hk07 := hk06.tr hk7
  have hk37 := (hk35.tr hk6).tr hk7
  have z05 := hk05.size
  have hx1f := h.fresh (k := x1) (by omega)
  refine au ?_
  rcases hq with ⟨j, hj, rfl, hyes, _⟩ | ⟨rfl, hno⟩
  rotate_left
  ·refine ye ?_
   refine au ?_
   exact rn_ret Tryz.func24 (.inl ⟨_, rfl, rfl⟩) (.inl ⟨order_no hno, rfl, hk07⟩)
  refine nay ?_
  refine au ?_
  have hord := order_yes hj hyes
  obtain ⟨_, hK, hLv⟩ := isOr_yes hyes
  have hnf : ∀ k ∈ obs nv, k ∉ fw ∧ k ∉ fd := fun k hk => h.fresh (by have := (hrow.lt k hk).1; omega)
  refine rn_draw (fun w' => Keep [] w7 w') [6] hMix ?_
  have hS : Keep [] w7 w7.drew := (Keep.refl _ _).drew
  generalize w7.drew = w8 at *
  have hk08 := hk07.tr hS
  have hk68 := hk7.tr hS
  have h8 := h.keep0 hk08
  have hb8 := hk68.blk hb1 (by simp)
  have hrow8 : RowL w8 w2.heap.size nv n := hrow.keep (hk37.tr hS) fun _ _ => by simp
  have hcases : j = 0 ∨ j = 1 ∨ j = 2 ∨ j = 3 ∨ j = 4 ∨ j = 5 ∨ j = 6 ∨ j = 7 := by omega
  rcases hcases with rfl | rfl | rfl | rfl | rfl | rfl | rfl | rfl
  ·refine tk 0 ?_
   refine tk 1 ?_
   refine dr_any 2 _ rfl (by decide +kernel) rfl rfl (fun w => val_index (b := g) (q := 0) (sz := 4) (len := 8) 0 hT rfl rfl rfl rfl rfl (by decide) w) ?_
   refine tk 3 ?_
   refine dr_val 4 (fnV (ordF 0) x1) rfl (by decide +kernel) rfl rfl (fun w9 hS9 => val_load1 hT rfl rfl rfl (((hk7.tr hS9).blk hg (by simp)).cell rfl)) hS ?_
   refine dr_val 5 nv rfl (by decide +kernel) rfl rfl (fun w9 hS9 => val_load1 hT rfl rfl rfl ((((hk6.tr hk7).tr hS9).blk hX5' (by simp)).cell rfl)) hS ?_
   refine dr_op 6 rfl (by decide +kernel) rfl rfl (opTo_call (fst := []) (cap := [.pointer (some ⟨x1, 0, none⟩)]) rfl rfl rfl rfl (by decide +kernel) ((ord1_ret h8 hb8 nv).mono ?_))
   rintro q w9 ⟨rfl, h9⟩
   refine ⟨fun h => absurd (by simp) h, ?_⟩
   refine dr_done (by decide +kernel) ?_
   refine au ?_
   refine rn_ret Tryz.func24 (.inl ⟨_, rfl, rfl⟩) (.inr ⟨_, hord, rfl, CkTo.late hk08 ?_⟩)
   simpa [ordD] using h9
  ·refine tk 0 ?_
   refine tk 1 ?_
   refine dr_any 2 _ rfl (by decide +kernel) rfl rfl (fun w => val_index (b := g) (q := 0) (sz := 4) (len := 8) 1 hT rfl rfl rfl rfl rfl (by decide) w) ?_
   refine tk 3 ?_
   refine dr_val 4 (fnV (ordF 1) x1) rfl (by decide +kernel) rfl rfl (fun w9 hS9 => val_load1 hT rfl rfl rfl (((hk7.tr hS9).blk hg (by simp)).cell rfl)) hS ?_
   refine dr_val 5 nv rfl (by decide +kernel) rfl rfl (fun w9 hS9 => val_load1 hT rfl rfl rfl ((((hk6.tr hk7).tr hS9).blk hX5' (by simp)).cell rfl)) hS ?_
   refine dr_op 6 rfl (by decide +kernel) rfl rfl (opTo_call (fst := []) (cap := [.pointer (some ⟨x1, 0, none⟩)]) rfl rfl rfl rfl (by decide +kernel) ((ord2_ret h8 hb8 (hrow8.low (Nat.le_trans h.k0.size z02)) hnf).mono ?_))
   rintro q w9 ⟨rfl, fd9, h9, hk9, hf9⟩
   refine ⟨fun h => absurd (by simp) h, ?_⟩
   refine dr_done (by decide +kernel) ?_
   refine au ?_
   refine rn_ret Tryz.func24 (.inl ⟨_, rfl, rfl⟩) (.inr ⟨_, hord, rfl, ?_⟩)
   refine ⟨fw, fd9, ?_, hk08.of0.tr (hk9.mono fun k hk => .inl (List.mem_append.2 (.inr hk))), fun k hk => .inl hk, fun k hk => (hf9 k hk).imp id fun hm => ?_⟩
   ·simpa [ordD] using h9
   ·have := (hrow.lt k hm).1
    omega
  ·refine tk 0 ?_
   refine tk 1 ?_
   refine dr_any 2 _ rfl (by decide +kernel) rfl rfl (fun w => val_index (b := g) (q := 0) (sz := 4) (len := 8) 2 hT rfl rfl rfl rfl rfl (by decide) w) ?_
   refine tk 3 ?_
   refine dr_val 4 (fnV (ordF 2) x1) rfl (by decide +kernel) rfl rfl (fun w9 hS9 => val_load1 hT rfl rfl rfl (((hk7.tr hS9).blk hg (by simp)).cell rfl)) hS ?_
   refine dr_val 5 nv rfl (by decide +kernel) rfl rfl (fun w9 hS9 => val_load1 hT rfl rfl rfl ((((hk6.tr hk7).tr hS9).blk hX5' (by simp)).cell rfl)) hS ?_
   refine dr_op 6 rfl (by decide +kernel) rfl rfl (opTo_call (fst := []) (cap := [.pointer (some ⟨x1, 0, none⟩)]) rfl rfl rfl rfl (by decide +kernel) ((ord3_ret hw h8 hL htx hin hb8 nv).mono ?_))
   rintro q w9 ⟨rfl, h9⟩
   refine ⟨fun h => absurd (by simp) h, ?_⟩
   refine dr_done (by decide +kernel) ?_
   refine au ?_
   refine rn_ret Tryz.func24 (.inl ⟨_, rfl, rfl⟩) (.inr ⟨_, hord, rfl, CkTo.late hk08 ?_⟩)
   exact h9
  ·refine tk 0 ?_
   refine tk 1 ?_
   refine dr_any 2 _ rfl (by decide +kernel) rfl rfl (fun w => val_index (b := g) (q := 0) (sz := 4) (len := 8) 3 hT rfl rfl rfl rfl rfl (by decide) w) ?_
   refine tk 3 ?_
   refine dr_val 4 (fnV (ordF 3) x1) rfl (by decide +kernel) rfl rfl (fun w9 hS9 => val_load1 hT rfl rfl rfl (((hk7.tr hS9).blk hg (by simp)).cell rfl)) hS ?_
   refine dr_val 5 nv rfl (by decide +kernel) rfl rfl (fun w9 hS9 => val_load1 hT rfl rfl rfl ((((hk6.tr hk7).tr hS9).blk hX5' (by simp)).cell rfl)) hS ?_
   refine dr_op 6 rfl (by decide +kernel) rfl rfl (opTo_call (fst := []) (cap := [.pointer (some ⟨x1, 0, none⟩)]) rfl rfl rfl rfl (by decide +kernel) ((ord4_ret hw h8 hok hL htx hin hb8 hrow8 (by simp only [ordK] at hK; omega)).mono ?_))
   rintro q w9 ⟨rfl, h9⟩
   refine ⟨fun h => absurd (by simp) h, ?_⟩
   refine dr_done (by decide +kernel) ?_
   refine au ?_
   refine rn_ret Tryz.func24 (.inl ⟨_, rfl, rfl⟩) (.inr ⟨_, hord, rfl, CkTo.late hk08 ?_⟩)
   exact h9
  ·refine tk 0 ?_
   refine tk 1 ?_
   refine dr_any 2 _ rfl (by decide +kernel) rfl rfl (fun w => val_index (b := g) (q := 0) (sz := 4) (len := 8) 4 hT rfl rfl rfl rfl rfl (by decide) w) ?_
   refine tk 3 ?_
   refine dr_val 4 (fnV (ordF 4) x1) rfl (by decide +kernel) rfl rfl (fun w9 hS9 => val_load1 hT rfl rfl rfl (((hk7.tr hS9).blk hg (by simp)).cell rfl)) hS ?_
   refine dr_val 5 nv rfl (by decide +kernel) rfl rfl (fun w9 hS9 => val_load1 hT rfl rfl rfl ((((hk6.tr hk7).tr hS9).blk hX5' (by simp)).cell rfl)) hS ?_
   refine dr_op 6 rfl (by decide +kernel) rfl rfl (opTo_call (fst := []) (cap := [.pointer (some ⟨x1, 0, none⟩)]) rfl rfl rfl rfl (by decide +kernel) ((ord5_ret hw h8 hok hL hcnt (hLv.resolve_right (by decide)) hb8 hrow8 (by simp only [ordK] at hK; omega)).mono ?_))
   rintro q w9 ⟨rfl, h9⟩
   refine ⟨fun h => absurd (by simp) h, ?_⟩
   refine dr_done (by decide +kernel) ?_
   refine au ?_
   refine rn_ret Tryz.func24 (.inl ⟨_, rfl, rfl⟩) (.inr ⟨_, hord, rfl, CkTo.late hk08 ?_⟩)
   exact h9
  ·refine tk 0 ?_
   refine tk 1 ?_
   refine dr_any 2 _ rfl (by decide +kernel) rfl rfl (fun w => val_index (b := g) (q := 0) (sz := 4) (len := 8) 5 hT rfl rfl rfl rfl rfl (by decide) w) ?_
   refine tk 3 ?_
   refine dr_val 4 (fnV (ordF 5) x1) rfl (by decide +kernel) rfl rfl (fun w9 hS9 => val_load1 hT rfl rfl rfl (((hk7.tr hS9).blk hg (by simp)).cell rfl)) hS ?_
   refine dr_val 5 nv rfl (by decide +kernel) rfl rfl (fun w9 hS9 => val_load1 hT rfl rfl rfl ((((hk6.tr hk7).tr hS9).blk hX5' (by simp)).cell rfl)) hS ?_
   refine dr_op 6 rfl (by decide +kernel) rfl rfl (opTo_call (fst := []) (cap := [.pointer (some ⟨x1, 0, none⟩)]) rfl rfl rfl rfl (by decide +kernel) ((ord6_ret hw h8 hok hL hcnt (hLv.resolve_right (by decide)) hb8 hrow8 (by simp only [ordK] at hK; omega)).mono ?_))
   rintro q w9 ⟨rfl, h9⟩
   refine ⟨fun h => absurd (by simp) h, ?_⟩
   refine dr_done (by decide +kernel) ?_
   refine au ?_
   refine rn_ret Tryz.func24 (.inl ⟨_, rfl, rfl⟩) (.inr ⟨_, hord, rfl, CkTo.late hk08 ?_⟩)
   exact h9
  ·refine tk 0 ?_
   refine tk 1 ?_
   refine dr_any 2 _ rfl (by decide +kernel) rfl rfl (fun w => val_index (b := g) (q := 0) (sz := 4) (len := 8) 6 hT rfl rfl rfl rfl rfl (by decide) w) ?_
   refine tk 3 ?_
   refine dr_val 4 (fnV (ordF 6) x1) rfl (by decide +kernel) rfl rfl (fun w9 hS9 => val_load1 hT rfl rfl rfl (((hk7.tr hS9).blk hg (by simp)).cell rfl)) hS ?_
   refine dr_val 5 nv rfl (by decide +kernel) rfl rfl (fun w9 hS9 => val_load1 hT rfl rfl rfl ((((hk6.tr hk7).tr hS9).blk hX5' (by simp)).cell rfl)) hS ?_
   refine dr_op 6 rfl (by decide +kernel) rfl rfl (opTo_call (fst := []) (cap := [.pointer (some ⟨x1, 0, none⟩)]) rfl rfl rfl rfl (by decide +kernel) ((ord7_ret hw h8 hok hL hcnt (hLv.resolve_right (by decide)) hb8 hrow8 (by simp only [ordK] at hK; omega) hn64).mono ?_))
   rintro q w9 ⟨rfl, h9⟩
   refine ⟨fun h => absurd (by simp) h, ?_⟩
   refine dr_done (by decide +kernel) ?_
   refine au ?_
   refine rn_ret Tryz.func24 (.inl ⟨_, rfl, rfl⟩) (.inr ⟨_, hord, rfl, CkTo.late hk08 ?_⟩)
   exact h9
  ·refine tk 0 ?_
   refine tk 1 ?_
   refine dr_any 2 _ rfl (by decide +kernel) rfl rfl (fun w => val_index (b := g) (q := 0) (sz := 4) (len := 8) 7 hT rfl rfl rfl rfl rfl (by decide) w) ?_
   refine tk 3 ?_
   refine dr_val 4 (fnV (ordF 7) x1) rfl (by decide +kernel) rfl rfl (fun w9 hS9 => val_load1 hT rfl rfl rfl (((hk7.tr hS9).blk hg (by simp)).cell rfl)) hS ?_
   refine dr_val 5 nv rfl (by decide +kernel) rfl rfl (fun w9 hS9 => val_load1 hT rfl rfl rfl ((((hk6.tr hk7).tr hS9).blk hX5' (by simp)).cell rfl)) hS ?_
   refine dr_op 6 rfl (by decide +kernel) rfl rfl (opTo_call (fst := []) (cap := [.pointer (some ⟨x1, 0, none⟩)]) rfl rfl rfl rfl (by decide +kernel) ((ord8_ret hw h8 hok hL hcnt (hLv.resolve_right (by decide)) hb8 hx1f.1 nv).mono ?_))
   rintro q w9 ⟨rfl, h9⟩
   refine ⟨fun h => absurd (by simp) h, ?_⟩
   refine dr_done (by decide +kernel) ?_
   refine au ?_
   refine rn_ret Tryz.func24 (.inl ⟨_, rfl, rfl⟩) (.inr ⟨_, hord, rfl, CkTo.late hk08 ?_⟩)
   exact h9
theorem pre_bar (l : List UInt8) : Lib.hasPrefix l [124] = decide (l.head? = some 124) ∧ (l.head? = some 124 → Lib.trimPrefix l [124] = l.drop 1) := by
 cases l with
 | nil => exact ⟨rfl, fun h => by cases h⟩
 | cons x r =>
  by_cases hx : x = 124
  ·subst hx
   exact ⟨by simp [Lib.hasPrefix, List.isPrefixOf], fun _ => by simp [Lib.trimPrefix, Lib.hasPrefix, List.isPrefixOf]⟩
  ·exact ⟨by simp [Lib.hasPrefix, List.isPrefixOf, hx, Ne.symm hx], fun h => absurd (by simpa using h) hx⟩
theorem slice_s1 (l : List UInt8) : sliceCells Tryz.prog 22 1 [(0, .string (str l))] = some (TS, [Value.string (str l)].toArray) := by kernel_rfl
theorem line_ret (l : List UInt8) (hw : Lw w00) (h : Ck w00 w c d fw fd L s) (hok : DsOk s) (hL : L.length ≤ 700000000000) (htx : txtN s.txt ≤ 100000) (hin : s.inp.length ≤ 100000) (hcnt : s.cnt ≤ 300000) (hl : l.length ≤ 100000) :
  Ret Tryz.prog 13 [.pointer (some ⟨c, 0, none⟩), .string (str l)] w fun r w' => r = .tuple #[] ∧ CkTo w00 w w' c d fw fd (L ++ (lineD s l).2) (lineD s l).1 := by
 obtain ⟨hp1, hp2⟩ := pre_bar l
 refine ret_of 49 Tryz.func13 rfl rfl (by simp) ?_
 refine oC (cutBar_ret l w) ?_
 rintro q w1 ⟨rfl, rfl⟩
 rw [hp1]
 by_cases hbar : l.head? = some 124
 ·rw [decide_eq_true hbar, hp2 hbar]
  have e : lineD s l = ({ s with txt := s.txt ++ [l.drop 1] }, []) := by unfold lineD; rw [if_pos hbar]
  rw [e, List.append_nil]
  obtain ⟨tv, iv, lv, fl, hD, hfd⟩ := h.dk
  obtain ⟨ta, tc, htv⟩ := hD.tx.form
  have hdl : (l.drop 1).length ≤ 100000 := by simp; omega
  have htl := txtN_len s.txt
  refine au ?_
  refine rn_draw (fun w' => w'.cell? ⟨c, 0, none⟩ = some (.pointer (some ⟨d, 0, none⟩)) ∧ Blk w' d [tv, iv, lv] TD) [17] hMix ?_
  have hkd : Keep [] w1 w1.drew := (Keep.refl _ _).drew
  generalize w1.drew = w2 at *
  have h2 := h.keep0 hkd
  have hD2 := hD.keep hkd fun _ _ => by simp
  have hS : w2.cell? ⟨c, 0, none⟩ = some (.pointer (some ⟨d, 0, none⟩)) ∧ Blk w2 d [tv, iv, lv] TD := ⟨h2.ct.desk.1, hD2.bk⟩
  refine tk 0 ?_
  refine tk 1 ?_
  refine tk 2 ?_
  refine dr_val 3 (.pointer (some ⟨d, 0, none⟩)) rfl (by decide +kernel) rfl rfl (fun w9 hS9 => val_load1 hT rfl rfl rfl hS9.1) hS ?_
  refine tk 4 ?_
  refine tk 5 ?_
  refine tk 6 ?_
  refine dr_val 7 (.pointer (some ⟨d, 0, none⟩)) rfl (by decide +kernel) rfl rfl (fun w9 hS9 => val_load1 hT rfl rfl rfl hS9.1) hS ?_
  refine tk 8 ?_
  refine tk 9 ?_
  refine dr_val 10 tv rfl (by decide +kernel) rfl rfl (fun w9 hS9 => val_load1 hT rfl rfl rfl (hS9.2.cell rfl)) hS ?_
  refine tk 11 ?_
  refine dC 12 (clone_ret (l.drop 1) (by omega) w2) ?_
  rintro q w3 ⟨rfl, hk3⟩
  have h3 := h2.keep0 hk3
  have hD3 := hD2.keep hk3 fun _ _ => by simp
  refine ⟨fun _ => ⟨h3.ct.desk.1, hD3.bk⟩, ?_⟩
  refine dr_op 13 rfl (by decide +kernel) rfl rfl (opTo_sliceN _ _ rfl rfl (slice_s1 (l.drop 1)) ?_)
  intro w4 g hg hs4 hk4 hb4
  have h4 := h3.keep0 hk4
  have hD4 := hD3.keep hk4 fun _ _ => by simp
  refine ⟨fun _ => ⟨h4.ct.desk.1, hD4.bk⟩, ?_⟩
  refine dr_op 14 rfl (by decide +kernel) rfl rfl (opTo_app w00.heap.size TS 1 16 (strs s.txt) [.string (str (l.drop 1))] rfl rfl rfl (by decide +kernel) hD4.tx (hb4.range rfl) rfl (one1 rfl) (by decide) (by unfold maxLen; omega) (by omega) h4.k0.size ?_)
  intro g5 cap5 w5 hown5 hgr5
  have hkt : Keep (obs tv) w4 w5 := by
   rcases hgr5 with ⟨h1, _, h3⟩ | ⟨_, h2, _⟩
   ·exact h3.mono fun k hk => .inl (by rw [List.mem_singleton.1 hk]; exact mem_obs.2 h1)
   ·exact h2.of0
  have hob : ∀ k ∈ obs (.slice (some ⟨g5, 0, none⟩) (s.txt.length + 1) cap5), k ∈ obs tv ∨ w4.heap.size ≤ k := fun k hk => by
   simp only [obs, Value.ownBlock, Option.toList_some, List.mem_singleton] at hk
   subst hk
   rcases hgr5 with ⟨h1, _⟩ | ⟨h1, _⟩
   ·exact .inl (mem_obs.2 h1)
   ·exact .inr (by omega)
  have hcs : strs s.txt ++ [.string (str (l.drop 1))] = strs (s.txt ++ [l.drop 1]) := by simp [strs]
  have hls : s.txt.length + 1 = (s.txt ++ [l.drop 1]).length := by simp
  rw [hcs] at hown5
  have hown5' : Own w5 w00.heap.size TS 1 (.slice (some ⟨g5, 0, none⟩) (s.txt.length + 1) cap5) (s.txt ++ [l.drop 1]).length (strs (s.txt ++ [l.drop 1])) := by
   rw [← hls]
   exact hown5
  have hd5 : Blk w5 d [tv, iv, lv] TD := hkt.blk hD4.bk fun hm => by
   obtain ⟨X, hX⟩ := own_blkE hD4.tx d hm
   exact Blk.ne hD4.bk hX neDS rfl
  have hc5 : w5.cell? ⟨c, 0, none⟩ = some (.pointer (some ⟨d, 0, none⟩)) := (h4.ct.keep hkt fun k hk hm => h4.dj k hk (by rw [hfd]; exact mem_fpK.2 (.inr (.inl hm)))).desk.1
  refine ⟨fun _ => ⟨hc5, hd5⟩, ?_⟩
  refine tk 15 ?_
  refine tk 16 ?_
  refine dr_op 17 rfl (by decide +kernel) rfl rfl (opTo_storeN [.slice (some ⟨g5, 0, none⟩) (s.txt.length + 1) cap5] rfl rfl rfl rfl size_strs hd5 (by simp) (one1 rfl) ?_)
  intro w6 hs6 hk6 hd6
  have hd6' : Blk w6 d [.slice (some ⟨g5, 0, none⟩) (s.txt.length + 1) cap5, iv, lv] TD := hd6
  obtain ⟨hD6, ht6⟩ := hD4.putT hkt hown5' hob hk6 hd6'
  rw [← hfd] at ht6
  refine ⟨fun h => absurd (by simp) h, ?_⟩
  refine dr_done (by decide +kernel) ?_
  exact rn_ret Tryz.func13 (.inr (.inl ⟨rfl, rfl⟩)) ⟨rfl, CkTo.late ((hkd.tr hk3).tr hk4) (h4.turns ⟨_, _, _, _, hD6, rfl⟩ ht6)⟩
 rw [decide_eq_false hbar]
 have e : lineD s l = wordD s (wordsOf l) := by unfold lineD; rw [if_neg hbar]
 rw [e]
 refine oC (fields_ret l (by omega) w1) ?_
 rintro wv w2 ⟨hwv, hnew, hk2⟩
 obtain ⟨hwl1, hwl2⟩ := wordsB_len l []
 have hwl1' : (wordsOf l).length ≤ 100000 := by have : (wordsOf l).length ≤ 0 + l.length := hwl1; omega
 have hwl2' : ∀ x ∈ wordsOf l, x.length ≤ 100000 := fun x hx => by have : x.length ≤ 0 + l.length := hwl2 x hx; omega
 have h2 := h.keep0 hk2
 obtain ⟨wa, wc, rfl, hwc⟩ := hwv.form
 refine au ?_
 refine rn_draw (fun w' => Keep [] w2 w') [10] hMix ?_
 have hS : Keep [] w2 w2.drew := (Keep.refl _ _).drew
 generalize w2.drew = w3 at *
 have hk03 := hk2.tr hS
 have h3 := h.keep0 hk03
 cases hws : wordsOf l with
 | nil =>
  refine tk 0 ?_
  refine tk 1 ?_
  refine dno 2 ?_
  refine tk 3 ?_
  refine dr_not 4 rfl (by decide +kernel) rfl rfl ?_
  refine dr_not 5 rfl (by decide +kernel) rfl rfl ?_
  refine dr_not 6 rfl (by decide +kernel) rfl rfl ?_
  refine dr_not 7 rfl (by decide +kernel) rfl rfl ?_
  refine dr_not 8 rfl (by decide +kernel) rfl rfl ?_
  refine dr_not 9 rfl (by decide +kernel) rfl rfl ?_
  refine dr_not 10 rfl (by decide +kernel) rfl rfl ?_
  refine dr_not 11 rfl (by decide +kernel) rfl rfl ?_
  refine tk 12 ?_
  refine dr_done (by decide +kernel) ?_
  refine au ?_
  refine rn_end Tryz.func13 (.inr (.inl ⟨rfl, rfl⟩)) ⟨rfl, CkTo.late hk03 ?_⟩
  simpa [wordD] using h3.here
 | cons wd r =>
  rw [hws] at hwv hwl1' hwl2'
  obtain ⟨b, q, cap, e1, hbl, hcell⟩ := hwv.at (i := 0) (x := wd) rfl
  injection e1 with e1 _ e3
  subst e1 e3
  simp only [List.length_cons] at hwv hwl1' ⊢
  refine tk 0 ?_
  refine tk 1 ?_
  refine dye 2 ?_
  refine tk 3 ?_
  refine tk 4 ?_
  refine tk 5 ?_
  refine dr_any 6 _ rfl (by decide +kernel) rfl rfl (fun w => val_index (b := b) (q := q) (sz := 1) (len := r.length + 1) 0 hT rfl rfl rfl rfl rfl (by omega) w) ?_
  refine dr_val 7 (.string (str wd)) rfl (by decide +kernel) rfl rfl (fun w9 hS9 => val_load1 hT rfl rfl rfl (cell_keep hS9 hcell)) hS ?_
  refine tk 8 ?_
  refine dr_any 9 _ rfl (by decide +kernel) rfl rfl (fun w => val_rest (b := b) (q := q) (sz := 1) (len := r.length + 1) (cap := wc) hT rfl rfl rfl rfl rfl (by omega) w) ?_
  have hrv : StV w3 (.slice (if wc = 1 then some ⟨b, q, none⟩ else some ⟨b, q + 1, none⟩) (r.length + 1 - 1) (wc - 1)) r := StV.last (l := wd :: r) (b := b) (q := q) (cap := wc) (hwv.keep0 hS) (k := 1) (by simp) (ad := if wc = 1 then some ⟨b, q, none⟩ else some ⟨b, q + 1, none⟩) (fun h => by rw [if_neg (by omega)])
  refine dC 10 (obey_ret wd hw h3 hok hL htx hin hcnt hrv (by omega) (fun x hx => by have := hwl2' x (List.mem_cons_of_mem _ hx); omega)) ?_
  rintro q4 w4 (⟨ho, rfl, hk4⟩ | ⟨y, ho, rfl, h4⟩)
  ·refine ⟨fun h => absurd (by simp) h, ?_⟩
   refine tk 11 ?_
   refine tk 12 ?_
   refine dr_done (by decide +kernel) ?_
   have ew : wordD s (wd :: r) = (s, tellB wWhat []) := by
    simp only [wordD]
    cases hn : numsOf r with
    | none => rfl
    | some n =>
     rw [hn] at ho
     have : orderD s wd n = none := ho
     simp only [this]
     rfl
   rw [ew]
   have h4 := h3.keep0 hk4
   refine oC (tell_ret wWhat (by decide) (by decide) hw.lt h4.k0 h4.ct (ls_nilV _) (nf_none _) all64_nil (by simp only [List.length_nil]; omega)) ?_
   rintro q5 w5 ⟨rfl, fw5, h5, ht5⟩
   refine au ?_
   exact rn_end Tryz.func13 (.inr (.inl ⟨rfl, rfl⟩)) ⟨rfl, CkTo.late (hk03.tr hk4) (h4.tells h5 ht5)⟩
  ·refine ⟨fun h => absurd (by simp) h, ?_⟩
   refine tk 11 ?_
   refine tk 12 ?_
   refine dr_done (by decide +kernel) ?_
   have ew : wordD s (wd :: r) = y := by
    simp only [wordD]
    cases hn : numsOf r with
    | none => rw [hn] at ho; cases ho
    | some n =>
     rw [hn] at ho
     have : orderD s wd n = some y := ho
     simp only [this]
     rfl
   rw [ew]
   refine au ?_
   exact rn_end Tryz.func13 (.inr (.inl ⟨rfl, rfl⟩)) ⟨rfl, CkTo.late hk03 h4⟩
end
end
section
open Go.Proofs
theorem now_len {d : Ds} (h : DsOk d) (hc : d.cnt ≤ 300000) : (nowD d).2.length ≤ 7000000 := by
 unfold nowD
 split
 ·simp
 ·rename_i vs body inp x hx
  obtain ⟨h1, h2, _, h4, g, h5, h6⟩ := h.lf _ _ _ _ hx
  have hz : InvZ vs body inp ⟨x, [], [], 0⟩ d.cnt := ⟨⟨by simp, by simp⟩, g, h5, h6⟩
  obtain ⟨b1, b2, b3⟩ := hz.bnd h1 (prog_size h1).1
  obtain ⟨r1, r2⟩ := h6.rg h2 h4
  have hst := hz.stat h1 (prog_size h1).1
  simp only at b1 b2 b3 hst
  have := resB_len (codeB_64 hst b3) r2 r1 (by omega) b2
  simp only
  omega
theorem step_len {d : Ds} (s : Sp) : (stepD d s).2.length ≤ 7000000 := by
 unfold stepD
 split
 ·simp
 ·split
  ·rename_i vs body inp x _ hf
   have hle := doSp_le (vs := vs) (body := body) (inp := inp) hf x
   have hsn := spN_le s
   have := tellB_len (w := wDid) (by decide) (all64_1 (n := (((doSp (insP vs body) inp s x).2 : Nat) : Int)) (by unfold in64; omega))
   simp only [List.length_cons, List.length_nil] at this ⊢
   omega
  ·have := tellB_len (w := wNo) (by decide) (all64_1 (spFault_64 s))
   simp only [List.length_cons, List.length_nil] at this ⊢
   omega
theorem withP_len {d : Ds} {f : List VarT → List ST → Ds × List UInt8} (h : ∀ x, parseOf (Lib.join d.txt [10]) = .ok x → (f x.1 x.2).2.length ≤ 7000000) : (withP d f).2.length ≤ 7000000 := by
 unfold withP
 split
 ·rename_i e he
  obtain ⟨_, e2, e3⟩ := parse_fr _ e he
  have := tellB_len (w := wNo) (by decide) (all64_app (all64_1 e2) (all64_1 e3))
  simp only [List.cons_append, List.nil_append, List.length_cons, List.length_nil] at this ⊢
  omega
 ·rename_i x hx
  exact h x hx
theorem order_len {d : Ds} (h : DsOk d) (hc : d.cnt ≤ 300000) {w : List UInt8} {n : List Int} : ∀ x, orderD d w n = some x → x.2.length ≤ 7000000 := by
 intro x hx
 unfold orderD at hx
 repeat' split at hx
 all_goals first
  | (cases hx; done)
  | (simp only [Option.some.injEq] at hx; subst hx)
 ·simp
 ·simp
 ·refine withP_len fun x hx => ?_
  unfold bootD
  split
  ·show (tellB wOk []).length ≤ 7000000
   decide
  ·have := tellB_len (w := wNo) (by decide) (all64_1 (n := newF x.1 x.2 d.inp) (by rw [newF_good (parse_good hx).1]; unfold in64; split <;> omega))
   simp only [List.length_cons, List.length_nil] at this ⊢
   omega
 ·refine withP_len fun x hx => ?_
  obtain ⟨g1, g2⟩ := parse_good hx
  obtain ⟨ro, rc, r1, r2, r3⟩ := runI_rg g1 g2 h.ir (n.getD 0 0)
  obtain ⟨b1, b2⟩ := runI_bnd (vs := x.1) (prog_size g1).1 d.inp (n.getD 0 0)
  unfold idealD toldB
  simp only
  split
  ·have t1 := tellB_len (w := wTook) (by decide) (all64_1 r2)
   have t2 := resB_len r1 ro rc (by omega) b2
   simp only [List.length_append, List.length_cons, List.length_nil] at t1 ⊢
   omega
  ·have := tellB_len (w := wNo) (by decide) (all64_1 r3)
   simp only [List.length_cons, List.length_nil] at this
   omega
 ·exact step_len _
 ·exact step_len _
 ·exact step_len _
 ·exact now_len h hc
theorem line_len {d : Ds} (h : DsOk d) (hc : d.cnt ≤ 300000) (l : List UInt8) : (lineD d l).2.length ≤ 7000000 := by
 have hwh : (tellB wWhat []).length ≤ 7000000 := by decide
 unfold lineD
 split
 ·simp
 ·unfold wordD
  split
  ·simp
  ·split
   ·exact hwh
   ·rename_i n _
    cases ho : orderD d _ n with
    | none => exact hwh
    | some x => exact order_len h hc x ho
theorem lines_len : ∀ {ls : List (List UInt8)} {d : Ds}, Lok d ls → (linesD d ls).2.length ≤ 7000000 * ls.length
 | [], d, _ => by simp [linesD]
 | l :: r, d, h => by
  have h1 := line_len h.ok (by have := h.cnt; omega) l
  have h2 := lines_len h.cons
  rw [show l :: r = [l] ++ r from rfl, linesD_app]
  have e : linesD d [l] = ((lineD d l).1, (lineD d l).2) := by simp [linesD]
  rw [e]
  simp only [List.length_append, List.length_cons, List.length_nil]
  omega
theorem hasNl_ret (l : List UInt8) (w : World) : Ret Tryz.prog 18 [.string (str l)] w fun r w' => r = .bool (hasNl l) ∧ w' = w := by
 refine ret_of 5 Tryz.func18 rfl rfl (by simp) ?_
 refine oC (sContains_ret l w) ?_
 rintro r w1 ⟨rfl, rfl⟩
 refine au ?_
 exact rn_ret Tryz.func18 (.inl ⟨_, rfl, rfl⟩) ⟨rfl, rfl⟩
def idxI (o : Option Nat) : Int := match o with
 | some i => (i : Nat)
 | none => -1
theorem findNl_ret {v : Value} {ls : List (List UInt8)} {w : World} (h : StV w v ls) (hl : ls.length ≤ 1000000) : Ret Tryz.prog 17 [v, .func (.func 18) #[] #[]] w fun r w' => r = .int .i64 (idxI (ls.findIdx? hasNl)) ∧ w' = w := by
 obtain ⟨a, cap, rfl, _⟩ := h.form
 refine ret_of 19 Tryz.func17 rfl rfl (by simp) ?_
 refine au ?_
 refine rn_ind (fun m σ w' => ∃ i : Nat, i ≤ ls.length ∧ m = ls.length - i ∧ σ = [(0, .slice a ls.length cap), (1, .func (.func 18) #[] #[]), (7, .int .i64 (ls.length : Nat)), (8, .int .i64 (i : Nat))] ∧ (∀ k (hk : k < ls.length), k < i → hasNl ls[k] = false) ∧ w' = w)
  ls.length _ ?_ ⟨0, by omega, by omega, rfl, fun k _ hk => absurd hk (Nat.not_lt_zero k), rfl⟩ ?_
 ·exact ⟨rfl, rfl, rfl, rfl, trivial⟩
 rintro m σ w2 ih ⟨i, hi, rfl, rfl, hany, rfl⟩
 refine au ?_
 by_cases hlt : i < ls.length
 ·refine ye ?_
  refine au ?_
  obtain ⟨b, q, cap', e1, _, hcell⟩ := h.at (List.getElem?_eq_getElem hlt)
  injection e1 with e1 _ e3
  subst e1 e3
  refine pl_val _ rfl rfl (val_index i hT rfl rfl rfl rfl rfl hlt w2) ?_
  refine pl_val _ rfl rfl (val_load1 hT rfl rfl rfl (by simpa using hcell)) ?_
  refine oC (hasNl_ret ls[i] w2) ?_
  rintro v3 w3 ⟨rfl, rfl⟩
  cases hb : hasNl ls[i] with
  | true =>
   refine au ?_
   have : ls.findIdx? hasNl = some i := List.findIdx?_eq_some_iff_getElem.2 ⟨hlt, hb, fun j hj => by rw [hany j (by omega) hj]; decide⟩
   rw [this]
   exact rn_ret Tryz.func17 (.inl ⟨_, rfl, rfl⟩) ⟨rfl, rfl⟩
  | false =>
   refine nM ((i + 1 : Nat) : Int) ?_
   refine au ?_
   refine rn_sub ?_ (ih (ls.length - (i + 1)) [(0, .slice (some ⟨b, q, none⟩) ls.length cap), (1, .func (.func 18) #[] #[]), (7, .int .i64 (ls.length : Nat)), (8, .int .i64 ((i + 1 : Nat) : Int))] w3 (by omega) ⟨i + 1, by omega, rfl, rfl, fun k hk hki => ?_, rfl⟩)
   ·exact ⟨rfl, rfl, rfl, rfl, trivial⟩
   ·rcases Nat.lt_or_ge k i with h | h
    ·exact hany k hk h
    ·have : k = i := by omega
     subst this
     exact hb
 ·refine nay ?_
  refine au ?_
  have : ls.findIdx? hasNl = none := List.findIdx?_eq_none_iff.2 fun x hx => by
   obtain ⟨k, hk, rfl⟩ := List.getElem_of_mem hx
   exact hany k hk (by omega)
  rw [this]
  exact rn_ret Tryz.func17 (.inl ⟨_, rfl, rfl⟩) ⟨rfl, rfl⟩
def fltV (f : Int × Int) : List Value := [.int .i64 f.1, .int .i64 f.2]
theorem built_fp (a b : Int) : Tryz.prog.built 34 [(0, .int .i64 a), (1, .int .i64 b)] = some (fltV (a, b)).toArray := by kernel_rfl
theorem built_fz : Tryz.prog.built 34 [] = some (fltV (0, 0)).toArray := by kernel_rfl
theorem check_desk {v : Value} {ls : List (List UInt8)} {w : World} (h : StV w v ls) (hl : ls.length ≤ 1000000) : Ret Tryz.prog 12 [v] w fun r w' => r = .agg (fltV (linesFault ls)).toArray ∧ Keep [] w w' := by
 obtain ⟨a, cap, rfl, hc⟩ := h.form
 refine ret_of 15 Tryz.func12 rfl rfl (by simp) ?_
 refine au ?_
 refine pl_op rfl rfl (opTo_allocN _ rfl zero_fault ?_)
 intro w1 x2 hx2 hs1 hk1 hb1
 refine au ?_
 by_cases h150 : 150 < ls.length
 ·refine ye ?_
  refine au ?_
  refine pl_val _ rfl rfl (val_build _ rfl rfl (built_fp 3 (-1)) w1) ?_
  refine pl_op rfl rfl (opTo_storeN (fltV (3, -1)) rfl rfl rfl rfl size_fault hb1 (by simp [fltV]) (one_fault _ _) ?_)
  intro w2 hs2 hk2 hb2
  rw [splice_whole (by rfl)] at hb2
  refine au ?_
  have e : linesFault ls = (3, -1) := by unfold linesFault; rw [if_pos h150]
  rw [e]
  exact rn_ret Tryz.func12 (.inr (.inr (.inl ⟨_, _, _, rfl, rfl, blk_loadVar hT hb2 rfl⟩))) ⟨rfl, hk1.trB hk2 (by omega)⟩
 ·refine nay ?_
  refine oC (findNl_ret (h.keep0 hk1) hl) ?_
  rintro r w2 ⟨rfl, rfl⟩
  refine au ?_
  cases hf : ls.findIdx? hasNl with
  | some i =>
   have e : linesFault ls = (14, ((i : Nat) : Int)) := by unfold linesFault; rw [if_neg h150, hf]
   rw [e]
   have ei : idxI (some i) = (i : Nat) := rfl
   refine ye ?_
   refine au ?_
   refine pl_val _ rfl rfl (val_build _ rfl rfl (built_fp 14 (i : Nat)) w2) ?_
   refine pl_op rfl rfl (opTo_storeN (fltV (14, (i : Nat))) rfl rfl rfl rfl size_fault hb1 (by simp [fltV]) (one_fault _ _) ?_)
   intro w3 hs3 hk3 hb3
   rw [splice_whole (by rfl)] at hb3
   refine au ?_
   exact rn_ret Tryz.func12 (.inr (.inr (.inl ⟨_, _, _, rfl, rfl, blk_loadVar hT hb3 rfl⟩))) ⟨rfl, hk1.trB hk3 (by omega)⟩
  | none =>
   have e : linesFault ls = (0, 0) := by unfold linesFault; rw [if_neg h150, hf]
   rw [e]
   have ei : idxI none = -1 := rfl
   refine nay ?_
   refine au ?_
   refine pl_val _ rfl rfl (val_build _ rfl rfl built_fz w2) ?_
   refine pl_op rfl rfl (opTo_storeN (fltV (0, 0)) rfl rfl rfl rfl size_fault hb1 (by simp [fltV]) (one_fault _ _) ?_)
   intro w3 hs3 hk3 hb3
   rw [splice_whole (by rfl)] at hb3
   refine au ?_
   exact rn_ret Tryz.func12 (.inr (.inr (.inl ⟨_, _, _, rfl, rfl, blk_loadVar hT hb3 rfl⟩))) ⟨rfl, hk1.trB hk3 (by omega)⟩
theorem built_dk : Tryz.prog.built TD [] = some [Value.slice none 0 0, .slice none 0 0, .pointer none].toArray := by kernel_rfl
theorem built_ck (d : Nat) : Tryz.prog.built TC [(0, .pointer (some ⟨d, 0, none⟩))] = some [Value.pointer (some ⟨d, 0, none⟩), .pointer none, .slice none 0 0].toArray := by kernel_rfl
theorem deskNew_ret {w00 w : World} (hk0 : Keep [] w00 w) : Ret Tryz.prog 7 [] w fun r w' => ∃ d, r = .pointer (some ⟨d, 0, none⟩) ∧ DkV w00.heap.size w' d [d] ds0 ∧ w.heap.size ≤ d ∧ Keep [] w w' := by
 refine ret_of 3 Tryz.func7 rfl rfl (by simp) ?_
 refine au ?_
 refine pl_val _ rfl rfl (val_build _ rfl rfl built_dk w) ?_
 refine pl_op rfl rfl (opTo_boxN [.slice none 0 0, .slice none 0 0, .pointer none] rfl rfl rfl ?_)
 intro w1 d hd hs1 hk1 hb1
 refine au ?_
 exact rn_ret Tryz.func7 (.inl ⟨_, rfl, rfl⟩) ⟨d, rfl, ⟨_, _, _, [], ⟨hb1, by have := hk0.size; omega, Own.nil _ _ _ _, RowL.nil _ _, ⟨rfl, rfl⟩, fun k hk => by cases hk⟩, rfl⟩, by omega, hk1⟩
theorem deskDo_ret {w00 w : World} {d : Nat} {fd : List Nat} {s : Ds} {lv : Value} {ls : List (List UInt8)} (hw : Lw w00) (hk0 : Keep [] w00 w) (h : DkV w00.heap.size w d fd s) (hls : StV w lv ls) (hnb : NB lv fd) (hlok : Lok s ls) :
  Ret Tryz.prog 8 [.pointer (some ⟨d, 0, none⟩), lv] w fun r w' => r = .tuple #[.string (str (doD s ls).2), .agg (fltV (linesFault ls)).toArray] ∧ ∃ fd', DkV w00.heap.size w' d fd' (doD s ls).1 ∧ Tn fd fd' w w' := by
 obtain ⟨la, lc, rfl, hlc⟩ := hls.form
 have hll : ls.length ≤ 50000 := Nat.le_trans (txtN_len ls) (by have := hlok.txt; omega)
 refine ret_of 35 Tryz.func8 rfl rfl (by simp) ?_
 refine au ?_
 refine pl_op rfl rfl (opTo_allocN _ rfl zero_fault ?_)
 intro w1 x5 hx5 hs1 hk1 hb1
 refine oC (check_desk (hls.keep0 hk1) (by omega)) ?_
 rintro r w2 ⟨rfl, hk2⟩
 obtain ⟨⟨fa, fb⟩, hf⟩ : ∃ f, f = linesFault ls := ⟨_, rfl⟩
 rw [← hf]
 have hdoD : doD s ls = if fa = 0 then linesD s ls else (s, []) := by unfold doD; rw [← hf]
 refine pl_op rfl rfl (opTo_allocN _ rfl zero_fault ?_)
 intro w3 x6 hx6 hs3 hk3 hb3
 refine pl_op rfl rfl (opTo_storeN (fltV (fa, fb)) rfl rfl rfl rfl size_fault hb3 (by simp [fltV]) (one_fault _ _) ?_)
 intro w4 hs4 hk4 hb4
 rw [splice_whole (by rfl)] at hb4
 have hk02 := hk1.tr hk2
 have hk04 : Keep [] w w4 := (hk02.tr hk3).trB hk4 (by have := hk02.size; omega)
 have hk14 : Keep [] w1 w4 := (hk2.tr hk3).trB hk4 (by have := hk2.size; omega)
 have hb5 := hk14.blk hb1 (by simp)
 have z14 := hk14.size
 have z02 := hk02.size
 refine lB hb4 ?_
 by_cases hfa : fa = 0
 rotate_left
 ·rw [if_neg hfa] at hdoD
  rw [hdoD]
  refine ye ?_
  refine au ?_
  refine rn_draw (fun w' => True ∧ Blk w' x6 (fltV (fa, fb)) 34) [2] hMix ?_
  have hkd : Keep [] w4 w4.drew := (Keep.refl _ _).drew
  generalize w4.drew = w5 at *
  have hS : True ∧ Blk w5 x6 (fltV (fa, fb)) 34 := ⟨trivial, hkd.blk hb4 (by simp)⟩
  refine dr_val 0 (.agg (fltV (fa, fb)).toArray) rfl (by decide +kernel) rfl rfl (fun w9 hS9 => val_load (fltV (fa, fb)) hT rfl rfl rfl (hS9.2.range (by rfl))) hS ?_
  refine tk 1 ?_
  refine dr_op 2 rfl (by decide +kernel) rfl rfl (opTo_storeN (fltV (fa, fb)) rfl rfl rfl rfl size_fault (hkd.blk hb5 (by simp)) (by simp [fltV]) (one_fault _ _) ?_)
  intro w6 hs6 hk6 hb6
  rw [splice_whole (by rfl)] at hb6
  refine ⟨fun h => absurd (by simp) h, ?_⟩
  refine dr_done (by decide +kernel) ?_
  have hk06 : Keep [] w w6 := (hk04.tr hkd).trB hk6 (by omega)
  exact rn_retTC Tryz.func8 rfl rfl rfl (blk_loadVar hT hb6 rfl) ⟨rfl, fd, h.keep0 hk06, Tn.of0 hk06⟩
 rw [if_pos hfa] at hdoD
 rw [hdoD]
 have hf0 : fb = 0 := by
  unfold linesFault at hf
  split at hf
  ·cases hf; cases hfa
  ·split at hf
   ·cases hf; cases hfa
   ·cases hf; rfl
 subst hfa hf0
 have h150 : ls.length ≤ 150 := by
  unfold linesFault at hf
  split at hf
  ·cases hf
  ·omega
 refine nay ?_
 refine au ?_
 refine pl_val _ rfl rfl (val_build _ rfl rfl (built_ck d) w4) ?_
 refine pl_op rfl rfl (opTo_boxN [.pointer (some ⟨d, 0, none⟩), .pointer none, .slice none 0 0] rfl rfl rfl ?_)
 intro w5 c hc hs5 hk5 hbc
 have hk05 := hk04.tr hk5
 have z04 := hk04.size
 have hcfd : c ∉ fd := fun hm => by have := (h.lt c hm).2; omega
 have h5 : Ck w00 w5 c d [c] fd [] s := ⟨hk0.tr hk05, ⟨_, _, ⟨hbc, World.ownsRow_nil _ _ _ _, fun _ => rfl, by have := hk0.size; omega⟩, .inl rfl, rfl⟩, h.keep0 hk05, fun k hk hm => hcfd (by rw [← List.mem_singleton.1 hk]; exact hm)⟩
 have hnb5 : NB (.slice la ls.length lc) ([c] ++ fd) := fun b q n k he h0 hm => by
  rcases List.mem_append.1 hm with hm | hm
  ·have e := List.mem_singleton.1 hm
   exact (hls.nb (fp := []) (fp' := [c]) (fun _ _ _ _ _ _ h => nomatch h) (fun k hk => .inr (by rw [List.mem_singleton.1 hk]; omega))) b q n k he h0 hm
  ·exact hnb b q n k he h0 hm
 have hx5n : x5 ∉ [c] ++ fd := fun hm => by
  rcases List.mem_append.1 hm with hm | hm
  ·have := List.mem_singleton.1 hm
   have := hb5.lt
   omega
  ·have := (h.lt x5 hm).2
   omega
 refine au ?_
 refine rn_ind (fun t σ w' => ∃ (j : Nat), j ≤ ls.length ∧ t = ls.length - j ∧ σ = [(5, .pointer (some ⟨x5, 0, none⟩)), (7, .pointer (some ⟨c, 0, none⟩)), (19, .slice la ls.length lc), (20, .int .i64 (ls.length : Nat)), (21, .int .i64 (j : Nat))] ∧ CkTo w00 w5 w' c d [c] fd (linesD s (ls.take j)).2 (linesD s (ls.take j)).1)
  ls.length _ ?_ ⟨0, Nat.zero_le _, rfl, rfl, h5.here⟩ ?_
 ·exact ⟨rfl, rfl, rfl, rfl, rfl, trivial⟩
 rintro t σ w6 ih ⟨j, hj, rfl, rfl, fw6, fd6, h6, hk6, hw6, hd6⟩
 have hsplit : ls = ls.take j ++ ls.drop j := (List.take_append_drop j ls).symm
 have hlokj : Lok (linesD s (ls.take j)).1 (ls.drop j) := Lok.app (by rw [← hsplit]; exact hlok)
 have hlen6 : (linesD s (ls.take j)).2.length ≤ 7000000 * 150 := by
  have h1 := lines_len (Lok.front (b := ls.drop j) (by rw [← hsplit]; exact hlok))
  have h2 : (ls.take j).length ≤ 150 := by simp; omega
  exact Nat.le_trans h1 (Nat.mul_le_mul_left _ h2)
 have hls6 := (hls.keep0 hk05).keep hk6 hnb5
 refine au ?_
 by_cases hlt : j < ls.length
 rotate_left
 ·have hjn : ls.take j = ls := List.take_of_length_le (by omega)
  rw [hjn] at h6
  refine nay ?_
  refine oC (builderStr_ret h6.ct) ?_
  rintro r w7 ⟨rfl, hk7⟩
  have hb56 := hk6.blk (hk5.blk hb5 (by simp)) hx5n
  have hx5w : x5 ∉ fw6 := fun hm => by
   rcases hw6 x5 hm with h1 | h1
   ·exact hx5n (List.mem_append.2 (.inl h1))
   ·have := (hk5.blk hb5 (by simp)).lt
    omega
  refine pl_val _ rfl rfl (val_build _ rfl rfl built_fz w7) ?_
  refine au ?_
  refine pl_op rfl rfl (opTo_storeN (fltV (0, 0)) rfl rfl rfl rfl size_fault (hk7.blk hb56 hx5w) (by simp [fltV]) (one_fault _ _) ?_)
  intro w8 hs8 hk8 hb8
  rw [splice_whole (by rfl)] at hb8
  refine au ?_
  have hd7 : DkV w00.heap.size w7 d fd6 (linesD s ls).1 := h6.dk.keep hk7 fun k hk hm => h6.dj k hm hk
  have hx5d : x5 ∉ fd6 := fun hm => by
   rcases hd6 x5 hm with h1 | h1
   ·exact hx5n (List.mem_append.2 (.inr h1))
   ·have := (hk5.blk hb5 (by simp)).lt
    omega
  have hd8 : DkV w00.heap.size w8 d fd6 (linesD s ls).1 := hd7.keep hk8 fun k hk hm => hx5d (by rw [← List.mem_singleton.1 hm]; exact hk)
  refine rn_retTC Tryz.func8 rfl rfl rfl (blk_loadVar hT hb8 rfl) ⟨rfl, fd6, hd8, ?_, fun k hk => (hd6 k hk).imp id fun h => Nat.le_trans hk05.size h⟩
  have hk06 : Keep fd w w6 := hk05.of0.trans hk6 fun k hk => (List.mem_append.1 hk).elim (fun h => .inr (by rw [List.mem_singleton.1 h]; omega)) .inl
  refine (hk06.trans hk7 fun k hk => ?_).trans hk8 fun k hk => .inr (by rw [List.mem_singleton.1 hk]; omega)
  rcases hw6 k hk with h1 | h1
  ·exact .inr (by rw [List.mem_singleton.1 h1]; omega)
  ·exact .inr (Nat.le_trans hk05.size h1)
 refine ye ?_
 refine au ?_
 obtain ⟨l, hl⟩ : ∃ l, ls[j]? = some l := ⟨_, List.getElem?_eq_getElem hlt⟩
 have hlm : l ∈ ls.drop j := by
  rw [List.drop_eq_getElem_cons hlt]
  rw [List.getElem?_eq_getElem hlt] at hl
  cases hl
  exact List.mem_cons_self
 have htxt := hlokj.txt
 have hl5 := txtN_at hlm
 obtain ⟨b, q, cap, e1, hbl, hcell⟩ := hls6.at hl
 injection e1 with e1 _ e3
 subst e1 e3
 refine pl_val _ rfl rfl (val_index j hT rfl rfl rfl rfl rfl hlt w6) ?_
 refine pl_val _ rfl rfl (val_load1 hT rfl rfl rfl (by simpa using hcell)) ?_
 refine oC (line_ret l hw h6 hlokj.ok (by omega) (by omega) (by have := hlokj.inp; omega) (by have := hlokj.cnt; omega) (by omega)) ?_
 rintro r w7 ⟨rfl, h7⟩
 refine nM ((j + 1 : Nat) : Int) ?_
 refine au ?_
 refine rn_sub ?_ (ih (ls.length - (j + 1)) [(5, .pointer (some ⟨x5, 0, none⟩)), (7, .pointer (some ⟨c, 0, none⟩)), (19, .slice (some ⟨b, q, none⟩) ls.length lc), (20, .int .i64 (ls.length : Nat)), (21, .int .i64 ((j + 1 : Nat) : Int))] w7 (by omega) ⟨j + 1, hlt, rfl, rfl, ?_⟩)
 ·exact ⟨rfl, rfl, rfl, rfl, rfl, trivial⟩
 ·rw [List.take_add_one, hl, Option.toList_some, linesD_snoc]
  exact CkTo.on hk6 hw6 hd6 h7
end
section
open Go.Proofs
theorem words_ret (l : List UInt8) (hl : l.length ≤ 2000000) (w : World) : Ret Tryz.prog 11 [.string (str l)] w fun r w' => Own w' w.heap.size TS 1 r (wordsOf l).length (strs (wordsOf l)) ∧ Keep [] w w' := by
 refine ret_of 36 Tryz.func11 rfl rfl (by simp) ?_
 refine au ?_
 refine rn_ind (fun t σ w' => ∃ (i : Nat) (ov : Value) (cur : List UInt8) (acc : List (List UInt8)), i ≤ l.length + 1 ∧ t = l.length + 1 - i ∧ σ = [(0, .string (str l)), (3, ov), (4, .string (str cur)), (5, .int .i64 (i : Nat))] ∧ Own w' w.heap.size TS 1 ov acc.length (strs acc) ∧ acc.length ≤ i ∧ cur.length ≤ i ∧
   (i ≤ l.length → acc ++ wordsB cur (l.drop i) = wordsOf l) ∧ (l.length < i → acc = wordsOf l) ∧ Keep [] w w')
  (l.length + 1) _ ?_ ⟨0, _, [], [], Nat.zero_le _, rfl, rfl, Own.nil _ _ _ _, Nat.le_refl _, Nat.le_refl _, fun _ => rfl, fun h => absurd h (by omega), Keep.refl _ _⟩ ?_
 ·exact ⟨rfl, rfl, rfl, rfl, trivial⟩
 rintro t σ w2 ih ⟨i, ov, cur, acc, hi, rfl, rfl, hown, hal, hcl, h1, h2, hk⟩
 refine au ?_
 refine pl_val (.int .i64 (l.length : Nat)) rfl rfl (val_len l (by decide +kernel) rfl rfl w2) ?_
 by_cases hlt : i ≤ l.length
 rotate_left
 ·refine nay ?_
  refine au ?_
  have := h2 (by omega)
  subst this
  exact rn_ret Tryz.func11 (.inl ⟨_, rfl, rfl⟩) ⟨hown, hk⟩
 refine ye ?_
 refine au ?_
 refine pl_val (.int .i64 (l.length : Nat)) rfl rfl (val_len l (by decide +kernel) rfl rfl w2) ?_
 replace h1 := h1 hlt
 have fin : ∀ {w3 : World} {ov3 : Value} {acc3 : List (List UInt8)}, Own w3 w.heap.size TS 1 ov3 acc3.length (strs acc3) → acc3.length ≤ i + 1 → (i + 1 ≤ l.length → acc3 ++ wordsB [] (l.drop (i + 1)) = wordsOf l) → (l.length < i + 1 → acc3 = wordsOf l) → Keep [] w w3 → _ := fun {w3 ov3 acc3} g1 g2 g3 g4 g5 => ih (l.length + 1 - (i + 1)) [(0, .string (str l)), (3, ov3), (4, .string (str [])), (5, .int .i64 ((i + 1 : Nat) : Int))] w3 (by omega) ⟨i + 1, ov3, [], acc3, by omega, rfl, rfl, g1, g2, by simp, g3, g4, g5⟩
 by_cases hin : i < l.length
 ·have hdrop : l.drop i = l[i] :: l.drop (i + 1) := List.drop_eq_getElem_cons hin
  refine ye ?_
  refine au ?_
  refine pl_val _ rfl rfl (val_byte l i l[i] (by decide +kernel) rfl rfl rfl rfl (List.getElem?_eq_getElem hin) w2) ?_
  rw [hdrop] at h1
  by_cases hc : l[i] = 32
  ·have hcn : (l[i]).toNat = 32 := by rw [hc]; rfl
   rw [hc] at h1
   simp only [wordsB, if_true] at h1
   refine nay ?_
   refine au ?_
   by_cases hcur : cur = []
   ·subst hcur
    refine pl_val _ rfl rfl (val_neS [] [] false rfl rfl rfl rfl w2) ?_
    refine nM ((i + 1 : Nat) : Int) ?_
    refine au ?_
    refine rn_sub ?_ (fin hown (by omega) (fun _ => by simpa using h1) (fun h => by omega) hk)
    exact ⟨rfl, rfl, rfl, rfl, trivial⟩
   ·rw [if_neg hcur] at h1
    refine pl_val _ rfl rfl (val_neS cur [] true rfl rfl rfl (by simp [hcur]) w2) ?_
    refine au ?_
    refine pl_op rfl rfl (opTo_sliceN _ _ rfl rfl (slice_s1 cur) ?_)
    intro w3 g hg hs3 hk3 hb3
    refine pl_op rfl rfl (opTo_app w.heap.size TS 1 16 (strs acc) [.string (str cur)] rfl rfl rfl (by decide +kernel) (hown.keep hk3 fun _ _ => by simp) (hb3.range rfl) rfl (one1 rfl) (by decide) (by unfold maxLen; omega) (by omega) (hk.tr hk3).size ?_)
    intro g4 cap4 w4 hown4 hgr4
    have hk4 : Keep [] w w4 := by
     rcases hgr4 with ⟨e1, _, e3⟩ | ⟨_, e2, _⟩
     ·exact (hk.tr hk3).trB e3 (hown.lt g4 e1).1
     ·exact (hk.tr hk3).tr e2
    have ho4 : Own w4 w.heap.size TS 1 (.slice (some ⟨g4, 0, none⟩) (acc.length + 1) cap4) (acc ++ [cur]).length (strs (acc ++ [cur])) := by
     have e1 : strs acc ++ [.string (str cur)] = strs (acc ++ [cur]) := by simp [strs]
     have e2 : acc.length + 1 = (acc ++ [cur]).length := by simp
     rw [e1] at hown4
     rw [← e2]
     exact hown4
    refine nM ((i + 1 : Nat) : Int) ?_
    refine au ?_
    refine rn_sub ?_ (fin ho4 (by simp; omega) (fun _ => by simpa using h1) (fun h => by omega) hk4)
    exact ⟨rfl, rfl, rfl, rfl, trivial⟩
  ·have hcn : (l[i]).toNat ≠ 32 := fun e => hc (UInt8.toNat_inj.1 e)
   have h1' : acc ++ wordsB (cur ++ [l[i]]) (l.drop (i + 1)) = wordsOf l := by
    rw [← h1]
    simp only [wordsB, if_neg hc]
   refine ye ?_
   refine nM ((i + 1 : Nat) : Int) ?_
   refine pl_val _ rfl rfl (val_cut l i (i + 1) (by decide +kernel) rfl rfl rfl rfl rfl rfl (by omega) (by omega) w2) ?_
   rw [show (l.drop i).take (i + 1 - i) = [l[i]] by rw [hdrop, show i + 1 - i = 1 by omega]; rfl]
   refine pl_val _ rfl rfl (val_add cur [l[i]] rfl rfl rfl (by simp; omega) w2) ?_
   refine nM ((i + 1 : Nat) : Int) ?_
   refine au ?_
   refine rn_sub ?_ (ih (l.length + 1 - (i + 1)) [(0, .string (str l)), (3, ov), (4, .string (str (cur ++ [l[i]]))), (5, .int .i64 ((i + 1 : Nat) : Int))] w2 (by omega) ⟨i + 1, ov, cur ++ [l[i]], acc, by omega, rfl, rfl, hown, by omega, by simp; omega, fun _ => h1', fun h => by omega, hk⟩)
   exact ⟨rfl, rfl, rfl, rfl, trivial⟩
 ·have hil : i = l.length := by omega
  have hdrop : l.drop i = [] := List.drop_eq_nil_of_le (by omega)
  rw [hdrop] at h1
  simp only [wordsB] at h1
  refine nay ?_
  refine au ?_
  by_cases hcur : cur = []
  ·subst hcur
   refine pl_val _ rfl rfl (val_neS [] [] false rfl rfl rfl rfl w2) ?_
   refine nM ((i + 1 : Nat) : Int) ?_
   refine au ?_
   refine rn_sub ?_ (fin hown (by omega) (fun h => by omega) (fun _ => by simpa using h1) hk)
   exact ⟨rfl, rfl, rfl, rfl, trivial⟩
  ·rw [if_neg hcur] at h1
   refine pl_val _ rfl rfl (val_neS cur [] true rfl rfl rfl (by simp [hcur]) w2) ?_
   refine au ?_
   refine pl_op rfl rfl (opTo_sliceN _ _ rfl rfl (slice_s1 cur) ?_)
   intro w3 g hg hs3 hk3 hb3
   refine pl_op rfl rfl (opTo_app w.heap.size TS 1 16 (strs acc) [.string (str cur)] rfl rfl rfl (by decide +kernel) (hown.keep hk3 fun _ _ => by simp) (hb3.range rfl) rfl (one1 rfl) (by decide) (by unfold maxLen; omega) (by omega) (hk.tr hk3).size ?_)
   intro g4 cap4 w4 hown4 hgr4
   have hk4 : Keep [] w w4 := by
    rcases hgr4 with ⟨e1, _, e3⟩ | ⟨_, e2, _⟩
    ·exact (hk.tr hk3).trB e3 (hown.lt g4 e1).1
    ·exact (hk.tr hk3).tr e2
   have ho4 : Own w4 w.heap.size TS 1 (.slice (some ⟨g4, 0, none⟩) (acc.length + 1) cap4) (acc ++ [cur]).length (strs (acc ++ [cur])) := by
    have e1 : strs acc ++ [.string (str cur)] = strs (acc ++ [cur]) := by simp [strs]
    have e2 : acc.length + 1 = (acc ++ [cur]).length := by simp
    rw [e1] at hown4
    rw [← e2]
    exact hown4
   refine nM ((i + 1 : Nat) : Int) ?_
   refine au ?_
   refine rn_sub ?_ (fin ho4 (by simp; omega) (fun h => by omega) (fun _ => h1) hk4)
   exact ⟨rfl, rfl, rfl, rfl, trivial⟩
end
section
open Go.Proofs
def bytesN (ls : List (List UInt8)) : Nat := (ls.map List.length).sum
theorem bytesN_snoc (a : List (List UInt8)) (l : List UInt8) : bytesN (a ++ [l]) = bytesN a + l.length := by simp [bytesN]
theorem bytesN_le {ls : List (List UInt8)} {m : Nat} (h : ∀ l ∈ ls, l.length ≤ m) : bytesN ls ≤ ls.length * m := by
 induction ls with
 | nil => simp [bytesN]
 | cons l r ih =>
  have h1 := h l (by simp)
  have h2 := ih fun x hx => h x (by simp [hx])
  simp only [bytesN, List.map_cons, List.sum_cons, List.length_cons, Nat.add_mul, Nat.one_mul] at h2 ⊢
  omega
theorem slowN_le (l : List UInt8) : slowN l ≤ 1 := by
 unfold slowN
 split
 ·split <;> omega
 ·omega
theorem slowS_le (ls : List (List UInt8)) : slowS ls ≤ ls.length := by
 induction ls with
 | nil => simp [slowS]
 | cons l r ih =>
  have := slowN_le l
  simp only [slowS, List.map_cons, List.sum_cons, List.length_cons] at ih ⊢
  omega
def slowB (ls : List (List UInt8)) : Bool := decide (9000 < bytesN ls) || decide (25 < slowS ls)
theorem slow_ret {v : Value} {ls : List (List UInt8)} {w : World} (h : StV w v ls) (hl : ls.length ≤ 200) (hb : ∀ l ∈ ls, l.length ≤ 2000000) : Ret Tryz.prog 6 [v] w fun r w' => r = .bool (slowB ls) ∧ Keep [] w w' := by
 obtain ⟨a, cap, rfl, _⟩ := h.form
 refine ret_of 54 Tryz.func6 rfl rfl (by simp) ?_
 refine au ?_
 refine rn_ind (fun t σ w' => ∃ i : Nat, i ≤ ls.length ∧ t = ls.length - i ∧ σ = [(0, .slice a ls.length cap), (3, .int .i64 (bytesN (ls.take i) : Nat)), (4, .int .i64 (slowS (ls.take i) : Nat)), (5, .int .i64 (i : Nat))] ∧ Keep [] w w')
  ls.length _ ?_ ⟨0, Nat.zero_le _, rfl, rfl, Keep.refl _ _⟩ ?_
 ·exact ⟨rfl, rfl, rfl, rfl, trivial⟩
 rintro t σ w2 ih ⟨i, hi, rfl, rfl, hk⟩
 have hB := bytesN_le (ls := ls.take i) (m := 2000000) fun l hl => hb l (List.mem_of_mem_take hl)
 have hR := slowS_le (ls.take i)
 have hti : (ls.take i).length = i := by simp; omega
 rw [hti] at hB hR
 refine au ?_
 by_cases hlt : i < ls.length
 rotate_left
 ·have hfull : ls.take i = ls := List.take_of_length_le (by omega)
  rw [hfull] at hB hR ⊢
  refine nay ?_
  refine au ?_
  unfold slowB
  by_cases h9 : 9000 < bytesN ls
  ·rw [decide_eq_true h9]
   refine ye ?_
   refine au ?_
   exact rn_ret Tryz.func6 (.inl ⟨_, rfl, rfl⟩) ⟨rfl, hk⟩
  ·rw [decide_eq_false h9]
   refine nay ?_
   refine au ?_
   by_cases h25 : 25 < slowS ls
   ·rw [decide_eq_true h25]
    refine ye ?_
    refine au ?_
    exact rn_ret Tryz.func6 (.inl ⟨_, rfl, rfl⟩) ⟨rfl, hk⟩
   ·rw [decide_eq_false h25]
    refine nay ?_
    refine au ?_
    exact rn_ret Tryz.func6 (.inl ⟨_, rfl, rfl⟩) ⟨rfl, hk⟩
 refine ye ?_
 refine au ?_
 obtain ⟨l, hx⟩ : ∃ l, ls[i]? = some l := ⟨_, List.getElem?_eq_getElem hlt⟩
 have hlb := hb l (List.mem_of_getElem? hx)
 have etk : ls.take (i + 1) = ls.take i ++ [l] := by rw [List.take_add_one, hx, Option.toList_some]
 have eB : bytesN (ls.take (i + 1)) = bytesN (ls.take i) + l.length := by rw [etk, bytesN_snoc]
 have eR : slowS (ls.take (i + 1)) = slowS (ls.take i) + slowN l := by rw [etk, slowS_app]; simp [slowS]
 obtain ⟨b, q, cap', e1, _, hcell⟩ := (h.keep0 hk).at hx
 injection e1 with e1 _ e3
 subst e1 e3
 refine pl_val _ rfl rfl (val_index i hT rfl rfl rfl rfl rfl hlt w2) ?_
 refine pl_val _ rfl rfl (val_load1 hT rfl rfl rfl (by simpa using hcell)) ?_
 refine pl_val (.int .i64 (l.length : Nat)) rfl rfl (val_len l (by decide +kernel) rfl rfl w2) ?_
 refine nM ((bytesN (ls.take (i + 1)) : Nat) : Int) ?_
 refine au ?_
 refine pl_val _ rfl rfl (val_index i hT rfl rfl rfl rfl rfl hlt w2) ?_
 refine pl_val _ rfl rfl (val_load1 hT rfl rfl rfl (by simpa using hcell)) ?_
 refine oC (words_ret l hlb w2) ?_
 rintro wv w3 ⟨hwv, hk3⟩
 have hk03 := hk.tr hk3
 have hst := own_st hwv
 obtain ⟨wa, wc, rfl, _⟩ := hst.form
 have back : ∀ k : Nat, k = slowS (ls.take (i + 1)) → _ := fun k hk' => ih (ls.length - (i + 1)) [(0, .slice (some ⟨b, q, none⟩) ls.length cap), (3, .int .i64 (bytesN (ls.take (i + 1)) : Nat)), (4, .int .i64 (slowS (ls.take (i + 1)) : Nat)), (5, .int .i64 ((i + 1 : Nat) : Int))] w3 (by omega) ⟨i + 1, hlt, rfl, rfl, hk03⟩
 refine au ?_
 cases hws : wordsOf l with
 | nil =>
  have e0 : slowN l = 0 := by unfold slowN; rw [hws]
  refine nay ?_
  refine nM ((i + 1 : Nat) : Int) ?_
  refine au ?_
  rw [show slowS (ls.take i) = slowS (ls.take (i + 1)) by omega]
  refine rn_sub ?_ (back _ rfl)
  exact ⟨rfl, rfl, rfl, rfl, trivial⟩
 | cons w0 r =>
  cases r with
  | nil =>
   have e0 : slowN l = 0 := by unfold slowN; rw [hws]
   refine nay ?_
   refine nM ((i + 1 : Nat) : Int) ?_
   refine au ?_
   rw [show slowS (ls.take i) = slowS (ls.take (i + 1)) by omega]
   refine rn_sub ?_ (back _ rfl)
   exact ⟨rfl, rfl, rfl, rfl, trivial⟩
  | cons w1 r =>
   rw [hws] at hst
   obtain ⟨b2, q2, cap2, e2, _, hc2⟩ := hst.at (i := 0) (x := w0) rfl
   injection e2 with e2 _ e4
   subst e2 e4
   simp only [List.length_cons]
   refine ye ?_
   refine au ?_
   refine pl_val _ rfl rfl (val_index (len := r.length + 1 + 1) 0 hT rfl rfl rfl rfl rfl (by omega) w3) ?_
   refine pl_val _ rfl rfl (val_load1 hT rfl rfl rfl (by simpa using hc2)) ?_
   by_cases hr : w0 = wRun
   ·refine pl_val (.bool true) rfl rfl (val_eqStr (str w0) (str wRun) _ rfl rfl rfl (by rw [str_toList, str_toList]; simpa using hr) w3) ?_
    have e0 : slowN l = 1 := by unfold slowN; rw [hws]; simp [hr]
    refine nM ((slowS (ls.take (i + 1)) : Nat) : Int) ?_
    refine nM ((i + 1 : Nat) : Int) ?_
    refine au ?_
    refine rn_sub ?_ (back _ rfl)
    exact ⟨rfl, rfl, rfl, rfl, trivial⟩
   ·refine pl_val (.bool false) rfl rfl (val_eqStr (str w0) (str wRun) _ rfl rfl rfl (by rw [str_toList, str_toList]; simpa using hr) w3) ?_
    refine au ?_
    refine pl_val _ rfl rfl (val_index (len := r.length + 1 + 1) 0 hT rfl rfl rfl rfl rfl (by omega) w3) ?_
    refine pl_val _ rfl rfl (val_load1 hT rfl rfl rfl (by simpa using hc2)) ?_
    by_cases ht : w0 = wTear
    ·refine pl_val (.bool true) rfl rfl (val_eqStr (str w0) (str wTear) _ rfl rfl rfl (by rw [str_toList, str_toList]; simpa using ht) w3) ?_
     have e0 : slowN l = 1 := by unfold slowN; rw [hws]; simp [ht]
     refine nM ((slowS (ls.take (i + 1)) : Nat) : Int) ?_
     refine nM ((i + 1 : Nat) : Int) ?_
     refine au ?_
     refine rn_sub ?_ (back _ rfl)
     exact ⟨rfl, rfl, rfl, rfl, trivial⟩
    ·refine pl_val (.bool false) rfl rfl (val_eqStr (str w0) (str wTear) _ rfl rfl rfl (by rw [str_toList, str_toList]; simpa using ht) w3) ?_
     refine au ?_
     refine pl_val _ rfl rfl (val_index (len := r.length + 1 + 1) 0 hT rfl rfl rfl rfl rfl (by omega) w3) ?_
     refine pl_val _ rfl rfl (val_load1 hT rfl rfl rfl (by simpa using hc2)) ?_
     by_cases hd : w0 = wIdeal
     ·refine pl_val (.bool true) rfl rfl (val_eqStr (str w0) (str wIdeal) _ rfl rfl rfl (by rw [str_toList, str_toList]; simpa using hd) w3) ?_
      have e0 : slowN l = 1 := by unfold slowN; rw [hws]; simp [hd]
      refine nM ((slowS (ls.take (i + 1)) : Nat) : Int) ?_
      refine nM ((i + 1 : Nat) : Int) ?_
      refine au ?_
      refine rn_sub ?_ (back _ rfl)
      exact ⟨rfl, rfl, rfl, rfl, trivial⟩
     ·refine pl_val (.bool false) rfl rfl (val_eqStr (str w0) (str wIdeal) _ rfl rfl rfl (by rw [str_toList, str_toList]; simpa using hd) w3) ?_
      have e0 : slowN l = 0 := by unfold slowN; rw [hws]; simp [hr, ht, hd]
      refine nM ((i + 1 : Nat) : Int) ?_
      refine au ?_
      rw [show slowS (ls.take i) = slowS (ls.take (i + 1)) by omega]
      refine rn_sub ?_ (back _ rfl)
      exact ⟨rfl, rfl, rfl, rfl, trivial⟩
def dL : List (List UInt8) := [[124, 108, 101, 116, 32, 97, 32, 49], [124, 40, 114, 101, 97, 100, 32, 97, 41, 32, 40, 112, 114, 105, 110, 116, 32, 40, 118, 97, 114, 32, 97, 41, 41, 32, 40, 99, 111, 109, 109, 105, 116, 41], [105, 110, 112, 117, 116, 32, 55], [110, 111, 119], [98, 111, 111, 116], [114, 117, 110, 32, 50], [110, 111, 119], [99, 114, 97, 115, 104, 32, 48], [114, 117, 110, 32, 57], [110, 111, 119], [105, 100, 101, 97, 108, 32, 57], [120]]
def dT : List UInt8 := [119, 104, 97, 116, 10, 111, 107, 10, 100, 105, 100, 32, 50, 10, 99, 111, 100, 101, 32, 49, 51, 10, 111, 117, 116, 10, 99, 101, 108, 108, 115, 32, 55, 10, 100, 105, 100, 32, 48, 10, 100, 105, 100, 32, 53, 10, 99, 111, 100, 101, 32, 48, 10, 111, 117, 116, 32, 55, 10, 99, 101, 108, 108, 115, 32, 55, 10, 116, 111, 111, 107, 32, 53, 10, 99, 111, 100, 101, 32, 48, 10, 111, 117, 116, 32, 55, 10, 99, 101, 108, 108, 115, 32, 55, 10, 119, 104, 97, 116, 10]
theorem dL_told : (doD ds0 dL).2 = dT ∧ linesFault dL = (0, 0) := by
 constructor
 ·kernel_rfl
 ·kernel_rfl
theorem dL_ok : Lok ds0 dL := ⟨dsOk0, by decide +kernel, by decide, by decide +kernel⟩
theorem slice_dL : sliceCells Tryz.prog 22 12 [(0, .string (str [124, 108, 101, 116, 32, 97, 32, 49])), (1, .string (str [124, 40, 114, 101, 97, 100, 32, 97, 41, 32, 40, 112, 114, 105, 110, 116, 32, 40, 118, 97, 114, 32, 97, 41, 41, 32, 40, 99, 111, 109, 109, 105, 116, 41])), (2, .string (str [105, 110, 112, 117, 116, 32, 55])), (3, .string (str [110, 111, 119])), (4, .string (str [98, 111, 111, 116])), (5, .string (str [114, 117, 110, 32, 50])), (6, .string (str [110, 111, 119])), (7, .string (str [99, 114, 97, 115, 104, 32, 48])), (8, .string (str [114, 117, 110, 32, 57])), (9, .string (str [110, 111, 119])), (10, .string (str [105, 100, 101, 97, 108, 32, 57])), (11, .string (str [120]))] = some (TS, (strs dL).toArray) := by kernel_rfl
theorem deskBegun_ret {w : World} (hw : Lw w) : Ret Tryz.prog 5 [] w fun r w' => r = .bool true ∧ Keep [] w w' := by
 refine ret_of 16 Tryz.func5 rfl rfl (by simp) ?_
 refine oC (deskNew_ret (Keep.refl [] w)) ?_
 rintro r w1 ⟨d, rfl, hd, hdn, hk1⟩
 refine pl_op rfl rfl (opTo_sliceN _ _ rfl rfl slice_dL ?_)
 intro w2 g hg hs2 hk2 hb2
 have hst : StV w2 (.slice (some ⟨g, 0, none⟩) 12 12) dL := ⟨_, _, rfl, Nat.le_refl _, fun _ => ⟨g, 0, rfl, hb2.lt, hb2.range (by rfl)⟩⟩
 have hd2 := hd.keep0 hk2
 refine pl_op rfl rfl (opTo_call (fst := []) (cap := []) rfl rfl rfl rfl (by decide +kernel) ((deskDo_ret hw (hk1.tr hk2) hd2 hst (fun b q n c he _ hm => by
  injection he with he
  injection he with he
  injection he with he _
  have := List.mem_singleton.1 hm
  have := (hd.lt d (by simp)).2
  omega) dL_ok).mono ?_))
 rintro r w3 ⟨rfl, fd3, hd3, ht3⟩
 rw [dL_told.1, dL_told.2]
 have hk03 : Keep [] w w3 := (hk1.tr hk2).trans ht3.1 fun k hk => .inr (by rw [List.mem_singleton.1 hk]; exact hdn)
 refine au ?_
 refine pl_op rfl rfl (opTo_allocN _ rfl zero_fault ?_)
 intro w4 x2 hx2 hs4 hk4 hb4
 refine au ?_
 refine pl_op rfl rfl (opTo_storeN (fltV (0, 0)) rfl rfl rfl rfl size_fault hb4 (by simp [fltV]) (one_fault _ _) ?_)
 intro w5 hs5 hk5 hb5
 rw [splice_whole (by rfl)] at hb5
 refine lB hb5 ?_
 refine ye ?_
 refine au ?_
 refine pl_val (.bool true) rfl rfl (val_eqStr (str dT) (str dT) _ rfl rfl rfl (by simp) w5) ?_
 refine au ?_
 exact rn_ret Tryz.func5 (.inl ⟨_, rfl, rfl⟩) ⟨rfl, (hk03.tr hk4).trB hk5 (by have := hk03.size; omega)⟩
end
section
open Go.Proofs
section
variable {P : Program} {T : Tbl} {n : Nat} {σ : Env} {o : Oper}
theorem val_sliceK {t : TypeId} {x lo : Operand} {a : Option Addr} {len cap sz : Nat} {k1 : IntKind} {i1 : Int} (k : Nat) (hT : T.check P = true) (ho : o.op = .slice t x (some lo) none none) (hx : ev σ x = some (.slice a len cap))
  (h1 : ev σ lo = some (.int k1 i1)) (ht : find T.sl t = some sz) (e1 : i1 = (k : Int)) (hl : k ≤ len) (w : World) : Val P n σ o w (.slice (if cap = k then a else a.map (·.add (k * sz))) (len - k) (cap - k)) := by
 intro ac ha
 subst e1
 have hs := Tbl.sl_ok hT ht
 unfold slOk at hs
 split at hs
 ·rename_i e hu
  simp [execOp, ho, ha.eval hx, ha.eval h1, Instr.sliceAt, Instr.slice, Instr.sliceBounds, Instr.sliceBound, asIntOf, run_underlying hu, sizeOk_run hs, hl]
 ·cases hs
end
theorem StV.rest {w : World} {a : Option Addr} {cap : Nat} {ls : List (List UInt8)} (h : StV w (.slice a ls.length cap) ls) {k : Nat} (hk : k ≤ ls.length) : StV w (.slice (if cap = k then a else a.map (·.add (k * 1))) (ls.length - k) (cap - k)) (ls.drop k) := by
 obtain ⟨a', cap', e, hc, h3⟩ := h
 injection e with e1 _ e3
 subst e1 e3
 have hl : (ls.drop k).length = ls.length - k := by simp
 refine ⟨_, _, by rw [hl], by omega, fun h0 => ?_⟩
 obtain ⟨b, q, rfl, h4, h5⟩ := h3 (by omega)
 refine ⟨b, q + k, ?_, h4, fun j u hu => ?_⟩
 ·rw [if_neg (by omega)]
  simp [Addr.add_mid]
 ·have := h5 (k + j) u (by rw [← hu]; simp [strs, List.getElem?_drop])
  rwa [← Nat.add_assoc] at this
theorem fault_ok {ls : List (List UInt8)} (h : ls.length ≤ 150) : (linesFault ls).1 = 0 ↔ ∀ l ∈ ls, hasNl l = false := by
 unfold linesFault
 rw [if_neg (by omega)]
 cases hf : ls.findIdx? hasNl with
 | none => exact ⟨fun _ => List.findIdx?_eq_none_iff.1 hf, fun _ => rfl⟩
 | some i =>
  refine ⟨fun h => (by cases h), fun h => ?_⟩
  have := List.findIdx?_eq_none_iff.2 h
  rw [hf] at this
  cases this
theorem doD_ok {d : Ds} {ls : List (List UInt8)} (h : (linesFault ls).1 = 0) : doD d ls = linesD d ls := by unfold doD; rw [if_pos h]
theorem doD_bad {d : Ds} {ls : List (List UInt8)} (h : (linesFault ls).1 ≠ 0) : doD d ls = (d, []) := by unfold doD; rw [if_neg h]
theorem conv_iu : convOk Tryz.prog 3 40 .u64 = true := by decide +kernel
theorem conv_ui : convOk Tryz.prog 40 3 .i64 = true := by decide +kernel
theorem lok_of {ls : List (List UInt8)} (hl : ls.length ≤ 200) (hs : slowB ls = false) : Lok ds0 ls := by
 unfold slowB at hs
 simp only [Bool.or_eq_false_iff, decide_eq_false_iff_not, Nat.not_lt] at hs
 have : txtN ls = bytesN ls + ls.length := by
  clear hs hl
  induction ls with
  | nil => rfl
  | cons x r ih => simp only [txtN, bytesN, List.map_cons, List.sum_cons, List.length_cons] at ih ⊢; omega
 refine ⟨dsOk0, ?_, by decide, ?_⟩
 ·show 0 + _ ≤ _
  omega
 ·show 0 + _ ≤ _
  omega
theorem deskJoins_ret {w : World} {lv : Value} {ls : List (List UInt8)} {cut : Int} (hw : Lw w) (h : StV w lv ls) (hb : ∀ l ∈ ls, l.length ≤ 2000000) : Ret Tryz.prog 4 [lv, .int .i64 cut] w fun r w' => r = .bool true ∧ Keep [] w w' := by
 obtain ⟨la, lc, rfl, hlc⟩ := h.form
 refine ret_of 94 Tryz.func4 rfl rfl (by simp) ?_
 refine oC (deskBegun_ret hw) ?_
 rintro r w1 ⟨rfl, hk1⟩
 refine au ?_
 by_cases h150 : 150 < ls.length
 ·refine ye ?_
  refine au ?_
  exact rn_ret Tryz.func4 (.inl ⟨_, rfl, rfl⟩) ⟨rfl, hk1⟩
 refine nay ?_
 refine oC (slow_ret (h.keep0 hk1) (by omega) hb) ?_
 rintro r w2 ⟨rfl, hk2⟩
 have hk02 := hk1.tr hk2
 cases hsl : slowB ls with
 | true =>
  refine au ?_
  exact rn_ret Tryz.func4 (.inl ⟨_, rfl, rfl⟩) ⟨rfl, hk02⟩
 | false =>
  have hlok := lok_of (by omega) hsl
  obtain ⟨k, hkd⟩ : ∃ k, k = u64I cut % (ls.length + 1) := ⟨_, rfl⟩
  have hkl : k ≤ ls.length := by
   have := Nat.mod_lt (u64I cut) (show ls.length + 1 > 0 by omega)
   omega
  refine au ?_
  refine pl_val (.int .u64 ((u64I cut : Nat) : Int)) rfl rfl (val_conv .i64 .u64 _ _ rfl rfl conv_iu (wrapU _) w2) ?_
  refine nM ((ls.length + 1 : Nat) : Int) ?_
  refine pl_val (.int .u64 ((ls.length + 1 : Nat) : Int)) rfl rfl (val_conv .i64 .u64 _ _ rfl rfl conv_iu (by rw [wrapU]; unfold u64I; omega) w2) ?_
  refine pl_val (.int .u64 ((k : Nat) : Int)) rfl rfl (val_int .u64 _ _ _ rfl rfl rfl (by
   simp only [intOp]
   rw [if_neg (by omega), hkd, Int.ofNat_tmod]) w2) ?_
  refine pl_val (.int .i64 ((k : Nat) : Int)) rfl rfl (val_conv .u64 .i64 _ _ rfl rfl conv_ui (wrap_i64 (by omega) (by omega)) w2) ?_
  refine oC (deskNew_ret (w00 := w) hk02) ?_
  rintro r w3 ⟨d, rfl, hd3, hdn, hk3⟩
  refine oC (deskNew_ret (w00 := w) (hk02.tr hk3)) ?_
  rintro r w4 ⟨e, rfl, he4, hen, hk4⟩
  have hk04 := (hk02.tr hk3).tr hk4
  have hd4 := hd3.keep0 hk4
  have hde : e ≠ d := fun x => by have := (hd3.lt d (by simp)).2; omega
  have arg : ∀ {w' : World} {v : Value} {m : List (List UInt8)} {fd : List Nat}, StV w v m → Keep [] w w' → (∀ k ∈ fd, w.heap.size ≤ k) → StV w' v m ∧ NB v fd := fun hv hk hf => ⟨hv.keep0 hk, hv.nb (fp := []) (fun _ _ _ _ _ _ h => nomatch h) fun k hk => .inr (hf k hk)⟩
  have hA := h.first rfl hkl
  have hB := StV.rest h hkl
  have hsplit : ls.take k ++ ls.drop k = ls := List.take_append_drop k ls
  have hlok' : Lok ds0 (ls.take k ++ ls.drop k) := by rw [hsplit]; exact hlok
  refine au ?_
  refine pl_val _ rfl rfl (val_sliceTo k hT rfl rfl rfl rfl rfl (by omega) w4) ?_
  obtain ⟨hA4, nA4⟩ := arg hA hk04 fun k hk => (hd4.lt k hk).1
  refine oC (deskDo_ret hw hk04 hd4 hA4 nA4 hlok'.front) ?_
  rintro r w5 ⟨rfl, fd5, hd5, ht5⟩
  have hk05 : Keep [] w w5 := hk04.trans ht5.1 fun k hk => .inr (hd4.lt k hk).1
  have he5 := he4.keep ht5.1 fun k hk hm => hde (by rw [← List.mem_singleton.1 hk, ← List.mem_singleton.1 hm])
  have hne5 : e ∉ fd5 := fun hm => by
   rcases ht5.2 e hm with h1 | h1
   ·exact hde (List.mem_singleton.1 h1)
   ·have := (he4.lt e (by simp)).2
    omega
  refine au ?_
  refine pl_op rfl rfl (opTo_allocN _ rfl zero_fault ?_)
  intro w6 x9 hx9 hs6 hk6 hb6
  refine au ?_
  refine pl_op rfl rfl (opTo_storeN (fltV (linesFault (ls.take k))) rfl rfl rfl rfl size_fault hb6 (by simp [fltV]) (one_fault _ _) ?_)
  intro w7 hs7 hk7 hb7
  rw [splice_whole (by rfl)] at hb7
  have hk57 : Keep [] w5 w7 := hk6.trB hk7 (by omega)
  have hk07 := hk05.tr hk57
  have hd7 := hd5.keep0 hk57
  have he7 := he5.keep0 hk57
  refine au ?_
  obtain ⟨hL7, nL7⟩ := arg h hk07 fun k hk => (he7.lt k hk).1
  refine oC (deskDo_ret hw hk07 he7 hL7 nL7 hlok) ?_
  rintro r w8 ⟨rfl, fe8, he8, ht8⟩
  have hk08 : Keep [] w w8 := hk07.trans ht8.1 fun k hk => .inr (he7.lt k hk).1
  have hd8 := hd7.keep ht8.1 fun k hk hm => hne5 (by rw [← List.mem_singleton.1 hm]; exact hk)
  have hx9e : x9 ∉ [e] := fun hm => by
   have := (he5.lt e (by simp)).2
   have := List.mem_singleton.1 hm
   omega
  have hb8 := ht8.1.blk hb7 hx9e
  refine au ?_
  refine pl_op rfl rfl (opTo_allocN _ rfl zero_fault ?_)
  intro w9 x11 hx11 hs9 hk9 hb9
  refine au ?_
  refine pl_op rfl rfl (opTo_storeN (fltV (linesFault ls)) rfl rfl rfl rfl size_fault hb9 (by simp [fltV]) (one_fault _ _) ?_)
  intro w10 hs10 hk10 hb10
  rw [splice_whole (by rfl)] at hb10
  have hk810 : Keep [] w8 w10 := hk9.trB hk10 (by omega)
  have hk010 := hk08.tr hk810
  have hd10 := hd8.keep0 hk810
  have hb8' := hk810.blk hb8 (by simp)
  have hlokB : Lok (doD ds0 (ls.take k)).1 (ls.drop k) := by
   by_cases hf : (linesFault (ls.take k)).1 = 0
   ·rw [doD_ok hf]
    exact hlok'.app
   ·rw [doD_bad hf]
    have h1 := hlok'.txt
    have h2 := hlok'.cnt
    rw [txtN_app] at h1
    rw [slowS_app] at h2
    exact ⟨dsOk0, by simp only; omega, by decide, by simp only; omega⟩
  refine au ?_
  refine pl_val _ rfl rfl (val_sliceK k hT rfl rfl rfl rfl rfl hkl w10) ?_
  obtain ⟨hB10, nB10⟩ := arg hB hk010 fun k hk => (hd10.lt k hk).1
  refine oC (deskDo_ret hw hk010 hd10 hB10 nB10 hlokB) ?_
  rintro r w11 ⟨rfl, fd11, hd11, ht11⟩
  have hk011 : Keep [] w w11 := hk010.trans ht11.1 fun k hk => .inr (hd10.lt k hk).1
  have hx9d : x9 ∉ fd5 := fun hm => by have := (hd5.lt x9 hm).2; omega
  have hx11d : x11 ∉ fd5 := fun hm => by
   have := (hd5.lt x11 hm).2
   have := hk57.size
   have := ht8.1.size
   omega
  have hb11 := ht11.1.blk hb8' hx9d
  have hb11' := ht11.1.blk hb10 hx11d
  refine au ?_
  refine pl_op rfl rfl (opTo_allocN _ rfl zero_fault ?_)
  intro w12 x13 hx13 hs12 hk12 hb12
  refine au ?_
  refine pl_op rfl rfl (opTo_storeN (fltV (linesFault (ls.drop k))) rfl rfl rfl rfl size_fault hb12 (by simp [fltV]) (one_fault _ _) ?_)
  intro w13 hs13 hk13 hb13
  rw [splice_whole (by rfl)] at hb13
  have hk1113 : Keep [] w11 w13 := hk12.trB hk13 (by omega)
  have hk013 := hk011.tr hk1113
  have hf13 := hk1113.blk hb11 (by simp)
  have hh13 := hk1113.blk hb11' (by simp)
  have tk150 : (ls.take k).length ≤ 150 := by simp; omega
  have dr150 : (ls.drop k).length ≤ 150 := by simp; omega
  refine lB hh13 ?_
  by_cases hH : (linesFault ls).1 = 0
  rotate_left
  ·refine ye ?_
   refine lB hf13 ?_
   by_cases hF : (linesFault (ls.take k)).1 = 0
   rotate_left
   ·refine ye ?_
    refine au ?_
    exact rn_ret Tryz.func4 (.inl ⟨_, rfl, rfl⟩) ⟨rfl, hk013⟩
   refine nay ?_
   refine lB hb13 ?_
   have hG : (linesFault (ls.drop k)).1 ≠ 0 := fun hG => hH ((fault_ok (by omega)).2 fun l hl => by
    rw [← hsplit] at hl
    rcases List.mem_append.1 hl with hl | hl
    ·exact (fault_ok tk150).1 hF l hl
    ·exact (fault_ok dr150).1 hG l hl)
   refine ye ?_
   refine au ?_
   exact rn_ret Tryz.func4 (.inl ⟨_, rfl, rfl⟩) ⟨rfl, hk013⟩
  have hno := (fault_ok (by omega)).1 hH
  have hF : (linesFault (ls.take k)).1 = 0 := (fault_ok tk150).2 fun l hl => hno l (List.mem_of_mem_take hl)
  have hG : (linesFault (ls.drop k)).1 = 0 := (fault_ok dr150).2 fun l hl => hno l (List.mem_of_mem_drop hl)
  refine nay ?_
  refine oC (deskNew_ret (w00 := w) hk013) ?_
  rintro r w14 ⟨t, rfl, htk, htn, hk14⟩
  have hk014 := hk013.tr hk14
  refine au ?_
  obtain ⟨hL14, nL14⟩ := arg h hk014 fun k hk => (htk.lt k hk).1
  refine oC (deskDo_ret hw hk014 htk hL14 nL14 hlok) ?_
  rintro r w15 ⟨rfl, ft15, ht15, htt15⟩
  have hk1315 : Keep [] w13 w15 := hk14.trans htt15.1 fun k hk => .inr (by rw [List.mem_singleton.1 hk]; exact htn)
  refine au ?_
  refine pl_op rfl rfl (opTo_allocN _ rfl zero_fault ?_)
  intro w16 x15 hx15 hs16 hk16 hb16
  refine au ?_
  refine pl_op rfl rfl (opTo_storeN (fltV (linesFault ls)) rfl rfl rfl rfl size_fault hb16 (by simp [fltV]) (one_fault _ _) ?_)
  intro w17 hs17 hk17 hb17
  have hk1517 : Keep [] w15 w17 := hk16.trB hk17 (by omega)
  have hk1317 := hk1315.tr hk1517
  have hf17 := hk1317.blk hf13 (by simp)
  have hg17 := hk1317.blk hb13 (by simp)
  rw [doD_ok hF, doD_ok hG, doD_ok hH]
  have hlen : ∀ m : List (List UInt8), ∀ s, Lok s m → m.length ≤ 150 → (linesD s m).2.length ≤ 7000000 * 150 := fun m s hm h => Nat.le_trans (lines_len hm) (Nat.mul_le_mul_left _ h)
  have hl1 := hlen _ _ hlok'.front tk150
  have hl2 := hlen _ _ hlok'.app dr150
  have happ : (linesD ds0 ls).2 = (linesD ds0 (ls.take k)).2 ++ (linesD (linesD ds0 (ls.take k)).1 (ls.drop k)).2 := by
   conv => lhs; rw [← hsplit, linesD_app]
  refine lB hf17 ?_
  refine ye ?_
  refine lB hg17 ?_
  refine ye ?_
  refine au ?_
  refine pl_val _ rfl rfl (val_add _ _ rfl rfl rfl (by omega) w17) ?_
  refine au ?_
  refine pl_val (.bool true) rfl rfl (val_eqStr _ _ _ rfl rfl rfl (by rw [happ]; simp) w17) ?_
  refine au ?_
  refine pl_val (.bool true) rfl rfl (val_eqStr _ _ _ rfl rfl rfl (by simp) w17) ?_
  refine au ?_
  exact rn_ret Tryz.func4 (.inl ⟨_, rfl, rfl⟩) ⟨rfl, hk013.tr hk1317⟩
end
section
open Go.Proofs
theorem bulk_part {H : Type} {d : DataW H} {l : List (DataW H)} (h : d ∈ l) : Rows.uptoBulk d ≤ Rows.uptoBulkAll l := by
 induction l with
 | nil => cases h
 | cons x r ih =>
  simp only [Rows.uptoBulkAll]
  rcases List.mem_cons.1 h with rfl | h
  ·omega
  ·have := ih h; omega
theorem argT_of {H : Type} {enc : TypeId × Value → H} {w : World} {v : Value} {d : DataW H} {ps : List MemPlace} (h : DataW.Trod enc Tryz.prog w 0 (fun _ => true) true 22 v d ps) (hv : v.cells = #[v]) : ∃ l, StV w v l ∧ ∀ x ∈ l, x.length ≤ Rows.uptoBulk d := by
 obtain ⟨fuel, hf⟩ := h
 rw [hv] at hf
 rcases Go.Deep.open_slice1 Tryz.underlying22 (by decide +kernel) hf with ⟨hcs, _⟩ | ⟨a, len, cap, m, n, V, D, Pl, hcs, _, hl, _, hm, hx, hall⟩
 ·simp at hcs
  exact ⟨[], ⟨none, 0, hcs, Nat.le_refl _, fun h => absurd h (by simp)⟩, fun x hx => by cases hx⟩
 ·simp only [if_true] at hm
  simp at hcs
  simp only [Prod.mk.injEq] at hx
  have each : ∀ i, i < len → ∃ s : List UInt8, w.cell? (a.add i) = some (.string (str s)) ∧ D i = .lit (.string s) := fun i hi => by
   obtain ⟨h1, h2⟩ := hall i (by omega)
   obtain ⟨s, e1, e2, _⟩ := DataW.trod_string Tryz.underlying9 h2
   simp only [List.cons.injEq, and_true] at e1
   simp only [Prod.mk.injEq] at e2
   exact ⟨s.data.toList, by rw [h1, e1, str_data], e2.1⟩
  obtain ⟨L, hL, hp⟩ := choose_list len each
  refine ⟨L, ⟨some a, cap, by rw [hcs, hL], by omega, fun h0 => ?_⟩, fun x hxm => ?_⟩
  ·have c0 := (hp 0 L[0] (List.getElem?_eq_getElem h0)).1
   have hsp : a.spot = none := by
    have := World.cell?_spot c0
    simpa [Addr.add] using this
   obtain ⟨b, q, sp⟩ := a
   simp only at hsp
   subst hsp
   refine ⟨b, q, rfl, ?_, fun j u hu => ?_⟩
   ·have := World.block_lt_of_cell? w _ c0
    simpa [Addr.add] using this
   ·simp only [strs, List.getElem?_map] at hu
    obtain ⟨y, hy, rfl⟩ := Option.map_eq_some_iff.1 hu
    have := (hp j y hy).1
    rwa [Addr.add_mid] at this
  ·obtain ⟨i, hi⟩ := List.getElem?_of_mem hxm
   have hil := (List.getElem?_eq_some_iff.1 hi).1
   have hD := (hp i x hi).2
   have hmem : D i ∈ (List.range len).map D := List.mem_map.2 ⟨i, List.mem_range.2 (by omega), rfl⟩
   have := bulk_part hmem
   rw [hD] at this
   rw [hx.1]
   simp only [Rows.uptoBulk] at this ⊢
   omega
end
end E
end Go.Proofs.YtoigoojdbpbhoagGreatDoor
