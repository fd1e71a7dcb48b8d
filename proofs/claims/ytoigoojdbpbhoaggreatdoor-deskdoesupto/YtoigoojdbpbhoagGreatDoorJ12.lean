/- Texts DkG DkH DkI DkJ DrJ LfO DrA FaR TkE RpA. -/
import Derived.Test.YtoigoojdbpbhoagGreatDoorJ11
import Derived.Test.YtoigoojdbpbhoagGreatDoorJ04
import Derived.Test.YtoigoojdbpbhoagGreatDoorJ05
import Derived.Test.YtoigoojdbpbhoagGreatDoorJ10
import Derived.Test.YtoigoojdbpbhoagGreatDoorJ02
namespace Go.Proofs.YtoigoojdbpbhoagGreatDoor
set_option maxRecDepth 20000
set_option maxHeartbeats 4000000
namespace E
open Go.Proofs.Tryz
section
variable{w00 w:World}{c d:Nat}{fw fd:List Nat}{L:List UInt8}{s:Ds}
theorem ahL{F:Nat→Prop}{x:Value}{vs:List aJ}{body:List ST}(hw:Lw w00)(h:Ck w00 w c d fw fd L s)(hL:L.length≤700000000000)(iY:s.inp.length≤100000)(hp:iN F w x vs body)(hF:In F w)(cX:dq vs body=0):aC prog 63 [.pointer (some ⟨c,0,none⟩),x] w fun r w'=>r=.tuple #[]∧dK w00 w w' c d fw fd (L++(qg s vs body).2) (qg s vs body).1:=by
 have su:=hp;obtain⟨vv,bv,rfl,hv,hb⟩:=hp;obtain⟨av,aY,rfl⟩:=hv.form;obtain⟨ab,bh,rfl⟩:=hb.form;obtain⟨tv,iv,lv,fl,hD,ky⟩:=h.dk;obtain⟨ia,gN,od⟩:=hD.ip.form;obtain⟨bw,du⟩:=tP cX;have hnF:=Ju (inp:=s.inp) cX;refine aG 34 func63 ?_;refine au ?_;refine aj (bY [.slice av vs.length aY,.slice ab body.length bh] rfl ?_);intro w1 x3 fX bt ah cm;refine au ?_;refine bC (fun w'=>ae [] w1 w') [] bE ?_;have hS:ae [] w1 w1.drew:=(ae.refl _ _).drew;generalize w1.drew=w2 at*;have br:=ah.tr hS;refine aI 0 (.agg #[.slice av vs.length aY,.slice ab body.length bh]) rfl (fun w9 aq=>bF [.slice av vs.length aY,.slice ab body.length bh] rfl ((aq.af cm (by simp)).range (by rfl))) hS ?_;refine tk 1 ?_;refine tk 2 ?_;refine tk 3 ?_;refine aI 4 (.pointer (some ⟨d,0,none⟩)) rfl (fun w9 aq=>aB rfl (h.ct.aA (ah.tr aq)).rW.1) hS ?_;refine tk 5 ?_;refine tk 6 ?_;refine aI 7 iv rfl (fun w9 aq=>aB rfl (((ah.tr aq).af hD.bk (by simp)).cell rfl)) hS ?_;subst od;refine dC 8 (aec (su.keep br hF.stays) (hF.keep br) (bl.R3 (hD.ip.keep br fun _ _=>by simp)) du bw iY) ?_;rintro r w3⟨⟨pv,rfl,H8⟩,aw⟩;refine⟨fun _=>hS.tr aw,?_⟩;refine tk 9 ?_;refine tk 10 ?_;refine tk 11 ?_;refine tk 12 ?_;refine tk 13 ?_;refine bm ?_;have bn:=br.tr aw;have h3:=h.aA bn;have Em:dm (qW vs body s.inp):=by
  rw[hnF];unfold dm;split<;>omega
 refine oC (I9 Em hw.lt h3.k0 h3.ct (by omega)) ?_;rintro r w4 (⟨h0,rfl,rfl⟩|⟨h0,rfl,Mg,h4,kf⟩)
 rotate_left
 ·refine au ?_;have e:qg s vs body=(s,eN e_ [qW vs body s.inp]):=by unfold qg;rw[if_neg h0]
  rw[e];exact df func63 (.inr (.inl ⟨rfl,rfl⟩)) ⟨rfl,dK.late bn (h3.wN h4 kf)⟩
 have e:qg s vs body=({s with fZ:=some (vs,body,s.inp,E1 (aT vs).toNat)},eN Az []):=by unfold qg;rw[if_pos h0]
 rw[e];obtain⟨y,fl',rfl,En⟩:=H8 h0;have y5:=hD.keep bn fun _ _=>by simp
 refine au ?_;refine ai _ (aB rfl (h3.ct.rW.1)) ?_;refine au ?_;refine aj (aH [.pointer (some ⟨y,0,none⟩)] rfl ahJ y5.bk (by simp) (lg rfl) ?_);intro w5 iV aE pT;have ang:ak w5 d [tv,.slice ia s.inp.length gN,.pointer (some ⟨y,0,none⟩)] TD:=pT;have az:=LV.lt En;have Qo:=h.low;have hD5:=y5.anf (fl':=fl') (cnt:=s.cnt) (o:=some (vs,body,s.inp,E1 (aT vs).toNat)) ⟨y,w2.heap.size,_,rfl,Nat.le_trans h.k0.size br.size,En,rfl,by show(0:Int)≤0;omega,by show(0:Int)≤_;omega⟩ (fun k hk hm=>by
  have h1:=(az k hk).1;have h2:=(hD.lt k (eX.2 ((eX.1 hm).imp id fun h=>h.imp id fun h=>h.imp id fun h=>by cases h))).2;have:=br.size;omega) aE ang
 have pR:Tn fd (rz d tv (.slice ia s.inp.length gN) fl') w w5:=by
  subst ky;refine⟨bn.bG.tr (aE.mono fun k hk=>.inl (eX.2 (.inl (List.mem_singleton.1 hk)))),fun k hk=>?_⟩;rcases eX.1 hk with h1|h1|h1|h1
  ·exact .inl (eX.2 (.inl h1))
  ·exact .inl (eX.2 (.inr (.inl h1)))
  ·exact .inl (eX.2 (.inr (.inr (.inl h1))))
  ·exact .inr (Nat.le_trans br.size (az k h1).1)
 obtain⟨CG,fd5,h5,cK,hw5,lr⟩:=h.turns ⟨_,_,_,_,hD5,rfl⟩ pR;refine oC (x8 Az (by decide) (by decide) hw.lt h5.k0 h5.ct (XP _) (XQ _) Vs (by simp only[List.length_nil];omega)) ?_;rintro r w6⟨rfl,R4,h6,y6⟩;refine au ?_;exact bK func63 rfl ⟨rfl,dK.on cK hw5 lr (h5.wN h6 y6)⟩
theorem uf.inv{B:Nat}{lv:Value}{fl:List Nat}{vs:List aJ}{body:List ST}{inp:List Int}{x:Lf}(h:uf B w lv fl s.cnt (some (vs,body,inp,x)))(cT:j7 s)(hx:s.fZ=some (vs,body,inp,x)):∃y BL z,lv=.pointer (some ⟨y,0,none⟩)∧B≤BL∧LV vs body inp BL w y fl z∧z.lf=x∧jH vs body inp z s.cnt:=by
 obtain⟨y,BL,z,h1,h2,h3,h4,h5,h6⟩:=h;obtain⟨_,_,_,_,g,a5,a6⟩:=cT.lf _ _ _ _ hx;exact⟨y,BL,z,h1,h2,h3,h4,⟨h5,h6⟩,g,a5,by rw[h4];exact a6⟩
theorem step_ret(sp:Sp)(hw:Lw w00)(h:Ck w00 w c d fw fd L s)(cT:j7 s)(hL:L.length≤700000000000)(mr:s.cnt≤300000)(vd:s.fZ.isSome=true)(hK:sp.2.2.1<9223372036854775808):aC prog 68 [.pointer (some ⟨c,0,none⟩),.agg (jU sp).toArray] w fun r w'=>r=.tuple #[]∧dK w00 w w' c d fw fd (L++(gE s sp).2) (gE s sp).1:=by
 obtain⟨⟨vs,body,inp,x⟩,hx⟩:=Option.isSome_iff_exists.1 vd;obtain⟨tv,iv,lv,fl,hD,ky⟩:=h.dk;have xA:=hD.lf;rw[hx]at xA;obtain⟨y,BL,z,rfl,R5,H8,H9,hZ⟩:=xA.inv cT hx;obtain⟨cX,_,fF,_,_⟩:=cT.lf _ _ _ _ hx;obtain⟨bw,du⟩:=tP cX;refine aG 29 func68 ?_;refine au ?_;refine aj (bY (jU sp) rfl ?_);intro w1 x3 fX bt ah cm;refine au ?_;refine bC (fun w'=>ae [] w1 w') [8] bE ?_;have hS:ae [] w1 w1.drew:=(ae.refl _ _).drew;generalize w1.drew=w2 at*;have br:=ah.tr hS;refine tk 0 ?_;refine tk 1 ?_;refine tk 2 ?_;refine aI 3 (.pointer (some ⟨d,0,none⟩)) rfl (fun w9 aq=>aB rfl (h.ct.aA (ah.tr aq)).rW.1) hS ?_;refine tk 4 ?_;refine tk 5 ?_;refine aI 6 (.pointer (some ⟨y,0,none⟩)) rfl (fun w9 aq=>aB rfl (((ah.tr aq).af hD.bk (by simp)).cell rfl)) hS ?_;refine aI 7 (.agg (jU sp).toArray) rfl (fun w9 aq=>bF (jU sp) rfl ((aq.af cm (by simp)).range (by rfl))) hS ?_;refine dC 8 (ahM sp (LV.keep H8 br fun k hk=>by cases hk) hZ mr cX bw fF hK) ?_;rintro r w3⟨rfl,fl',En,aw,Z5⟩;refine⟨fun h=>absurd (by simp) h,?_⟩;refine tk 9 ?_;refine tk 10 ?_;refine tk 11 ?_;refine tk 12 ?_;refine tk 13 ?_;refine bm ?_;have H_:=hD.keep br fun _ _=>by simp
 have h2:=h.aA br;have CI:=hZ.alN (nw:=d_) sp;by_cases hf:jA sp=0
 rotate_left
 ·have ez:pF d_ (bB vs body) inp sp z=(z,0):=by unfold pF;rw[if_neg hf]
  rw[ez]at En⊢;have e:gE s sp=(s,eN e_ [jA sp]):=by
   unfold gE;rw[hx];simp only;rw[if_neg hf]
  rw[e];obtain⟨y5,fY⟩:=H_.rA (cnt:=s.cnt) (o:=some (vs,body,inp,x)) aw ⟨y,BL,z,rfl,R5,En,H9,hZ.1⟩ Z5;rw[←ky]at fY;obtain⟨CF,fd3,h3,Qp,Ia,ju⟩:=h2.turns (s':={s with fZ:=some (vs,body,inp,x),cnt:=s.cnt}) ⟨_,_,_,_,y5,rfl⟩ fY;have L_:{s with fZ:=some (vs,body,inp,x),cnt:=s.cnt}=s:=by rw[←hx]
  rw[L_]at h3;refine oC (I9 (A5 sp) hw.lt h3.k0 h3.ct (by omega)) ?_;rintro r w4 (⟨h0,rfl,rfl⟩|⟨h0,rfl,Mg,h4,kf⟩)
  ·exact absurd h0 hf
  ·refine au ?_;exact df func68 (.inr (.inl ⟨rfl,rfl⟩)) ⟨rfl,dK.late br (dK.on Qp Ia ju (h3.wN h4 kf))⟩
 ·obtain⟨e1,e2⟩:=ajP (bB vs body) inp hf z;rw[H9]at e1 e2;have hle:=J3 (vs:=vs) (body:=body) (inp:=inp) hf x;have vH:=Gv sp;have e:gE s sp=({s with fZ:=some (vs,body,inp,(lh (bB vs body) inp sp x).1),cnt:=s.cnt+vI sp},eN yy [((lh (bB vs body) inp sp x).2:Nat)]):=by
   unfold gE;rw[hx];simp only;rw[if_pos hf]
  rw[e,e2];obtain⟨y5,fY⟩:=H_.rA (cnt:=s.cnt+vI sp) (o:=some (vs,body,inp,(lh (bB vs body) inp sp x).1)) aw ⟨y,BL,_,rfl,R5,En,e1,CI.1⟩ Z5;rw[←ky]at fY;obtain⟨CF,fd3,h3,Qp,Ia,ju⟩:=h2.turns ⟨_,_,_,_,y5,rfl⟩ fY;refine oC (I9 (A5 sp) hw.lt h3.k0 h3.ct (by omega)) ?_;rintro r w4 (⟨h0,rfl,rfl⟩|⟨h0,rfl,Mg,h4,kf⟩)
  rotate_left
  ·exact absurd hf h0
  refine au ?_;refine aj (eE _ _ rfl rfl (JJ (((lh (bB vs body) inp sp x).2:Nat):Int)) ?_);intro w5 g hg iV aE cr;have h5:=h3.aA aE;refine aj (aV (fst:=[]) (cap:=[]) rfl ((x8 yy (by decide) (by decide) hw.lt h5.k0 h5.ct (Gk rfl cr) (fun b q n k he _=>by
   injection he with he;injection he with he;injection he with he _;exact(h3.fresh (by omega)).1) (oI (by unfold dm;omega)) (by simp only[List.length_cons,List.length_nil];omega)).mono ?_))
  rintro r w6⟨rfl,R4,h6,y6⟩;refine au ?_;exact bK func68 rfl ⟨rfl,dK.late br (dK.on Qp Ia ju (dK.late aE (h5.wN h6 y6)))⟩
theorem agq{F:Nat→Prop}{x:Value}{vs:List aJ}{body:List ST}(fuel:Int)(hw:Lw w00)(h:Ck w00 w c d fw fd L s)(cT:j7 s)(hL:L.length≤700000000000)(iY:s.inp.length≤100000)(hp:iN F w x vs body)(hF:In F w)(cX:dq vs body=0)(o2:oK body):aC prog 66 [.pointer (some ⟨c,0,none⟩),x,.int .i64 fuel] w fun r w'=>r=.tuple #[]∧dK w00 w w' c d fw fd (L++(tY s fuel vs body).2) (tY s fuel vs body).1:=by
 have su:=hp;obtain⟨vv,bv,rfl,hv,hb⟩:=hp;obtain⟨av,aY,rfl⟩:=hv.form;obtain⟨ab,bh,rfl⟩:=hb.form;obtain⟨tv,iv,lv,fl,hD,ky⟩:=h.dk;obtain⟨ia,gN,od⟩:=hD.ip.form;obtain⟨bw,du⟩:=tP cX;obtain⟨ro,rc,r1,r2,r3⟩:=OI (vs:=vs) (inp:=s.inp) cX o2 cT.ir fuel;obtain⟨b1,b2⟩:=Oh (vs:=vs) bw s.inp fuel;show aC _ _ _ _ fun r w'=>r=.tuple #[]∧dK w00 w w' c d fw fd (L++wO (gv vs body s.inp fuel)) s;have hI:∀{w2:World},ae [] w w2→aC prog 100 [.agg #[.slice av vs.length aY,.slice ab body.length bh],.slice ia s.inp.length gN,.int .i64 fuel] w2 fun r w'=>(∃ov cv,r=.tuple #[.agg (cI (gv vs body s.inp fuel).code ov cv).toArray,.int .i64 (gv vs body s.inp fuel).used,.int .i64 (gv vs body s.inp fuel).fault]∧xB w' ov (gv vs body s.inp fuel).out∧eS w' cv (gv vs body s.inp fuel).cells∧Nw w2 ov∧Nw w2 cv)∧ae [] w2 w':=fun{w2} hk=>by
  subst od;exact idC.run fuel (su.keep hk hF.stays) (hF.keep hk) (bl.R3 (hD.ip.keep hk fun _ _=>by simp)) du bw iY
 generalize gv vs body s.inp fuel=T at*;refine aG 39 func66 ?_;refine au ?_;refine aj (bY [.slice av vs.length aY,.slice ab body.length bh] rfl ?_);intro w1 x4 cy bt ah cm;refine au ?_;refine bC (fun w'=>ae [] w1 w') [] bE ?_;have hS:ae [] w1 w1.drew:=(ae.refl _ _).drew;generalize w1.drew=w2 at*;have br:=ah.tr hS;refine aI 0 (.agg #[.slice av vs.length aY,.slice ab body.length bh]) rfl (fun w9 aq=>bF [.slice av vs.length aY,.slice ab body.length bh] rfl ((aq.af cm (by simp)).range (by rfl))) hS ?_;refine tk 1 ?_;refine tk 2 ?_;refine tk 3 ?_;refine aI 4 (.pointer (some ⟨d,0,none⟩)) rfl (fun w9 aq=>aB rfl (h.ct.aA (ah.tr aq)).rW.1) hS ?_;refine tk 5 ?_;refine tk 6 ?_;refine aI 7 iv rfl (fun w9 aq=>aB rfl (((ah.tr aq).af hD.bk (by simp)).cell rfl)) hS ?_;refine tk 8 ?_;subst od;refine yb 3 32767 (fun σ' w'=>∃x6 oa oc ca cc,ak w' x6 (cI 0 (.slice none 0 0) (.slice none 0 0)) 81∧w1.heap.size≤x6∧eS w' (.slice oa T.out.length oc) T.out∧eS w' (.slice ca T.cells.length cc) T.cells∧Nw w1 (.slice oa T.out.length oc)∧Nw w1 (.slice ca T.cells.length cc)∧NF (.slice oa T.out.length oc) [x6]∧NF (.slice ca T.cells.length cc) [x6]∧ae [] w1 w'∧
  Sub [(0,.pointer (some ⟨c,0,none⟩)),(6,.pointer (some ⟨x6,0,none⟩)),(20,.agg (cI T.code (.slice oa T.out.length oc) (.slice ca T.cells.length cc)).toArray),(21,.int .i64 T.used),(22,.int .i64 T.fault)] σ') ?_ ?_
 ·rintro σ' w3⟨x6,oa,oc,ca,cc,lK,im,ho,hc,no,nc,fo,fc,aw,bH⟩;refine yg bH ?_;refine a8 15 rfl (aH (cI T.code (.slice oa T.out.length oc) (.slice ca T.cells.length cc)) rfl rO lK (by simp[cI]) (rN _ _ _ _ _ _ _) ?_);intro w4 cz ax fk;rw[bs (by rfl)]at fk;have gP:ae [] w1 w4:=aw.aO ax im;refine⟨fun _=>gP,?_⟩;refine tk 16 ?_;refine tk 17 ?_;refine bm ?_;have dJ:=ah.tr gP;have h4:=h.aA dJ;have qu:=ho.kG ax fo;have jJ:=hc.kG ax fc;have no4:NF (.slice oa T.out.length oc) fw:=h.nf no ah.size;have nc4:NF (.slice ca T.cells.length cc) fw:=h.nf nc ah.size;have anh:x6∉fw:=(h.fresh (Nat.le_trans ah.size im)).1;refine oC (I9 r3 hw.lt h4.k0 h4.ct (by omega)) ?_;rintro r w5 (⟨h0,rfl,rfl⟩|⟨h0,rfl,CG,h5,pR⟩)
  rotate_left
  ·refine au ?_;have e:wO T=eN e_ [T.fault]:=by unfold wO;rw[if_neg h0]
   rw[e];exact df func66 (.inr (.inl ⟨rfl,rfl⟩)) ⟨rfl,dK.late dJ (h4.wN h5 pR)⟩
  have e:wO T=eN uW [T.used]++tb T.code T.out T.cells:=by unfold wO;rw[if_pos h0]
  rw[e];refine au ?_;refine aj (eE _ _ rfl rfl (JJ T.used) ?_);intro w6 g hg iI aD dM;have h6:=h4.aA aD;refine aj (aV (fst:=[]) (cap:=[]) rfl ((x8 uW (by decide) (by decide) hw.lt h6.k0 h6.ct (Gk rfl dM) (fun b q n k he _=>by
   injection he with he;injection he with he;injection he with he _;exact(h4.fresh (by omega)).1) (oI r2) (by simp only[List.length_cons,List.length_nil];omega)).mono ?_))
  rintro r w7⟨rfl,fw7,h7,o3⟩;have Mi:=o3.1.af (aD.af fk (by simp)) anh;have Ap:=(qu.aA aD).kG o3.1 no4;have vF:=(jJ.aA aD).kG o3.1 nc4;have no7:=(qu.aA aD).nf no4 o3.2;have nc7:=(jJ.aA aD).nf nc4 o3.2;obtain⟨arJ,fd7,h7',arK,mD,vJ⟩:=h6.wN h7 o3;have aN:=h6.ct.k0 h6.k0 o3;have tl:=rL (w:=uW) (by decide) (oI r2);simp only[List.length_cons,List.length_nil]at tl;refine au ?_;refine bC (fun w'=>ae [] w7 w') [4] bE ?_;have uy:ae [] w7 w7.drew:=(ae.refl _ _).drew;generalize w7.drew=w8 at*;refine tk 0 ?_;refine tk 1 ?_;refine tk 2 ?_;refine aI 3 (.agg (cI T.code (.slice oa T.out.length oc) (.slice ca T.cells.length cc)).toArray) rfl (fun w9 aq=>bF (cI T.code (.slice oa T.out.length oc) (.slice ca T.cells.length cc)) rfl ((aq.af Mi (by simp)).range (by rfl))) uy ?_;refine dC 4 (UF r1 (Ap.aA uy) (vF.aA uy) no7 nc7 ro rc hw.lt (aN.tr uy) (h7.aA uy) (by simp only[List.length_append];omega)) ?_;rintro r w9⟨rfl,fw9,h9,R1⟩;refine⟨fun h=>absurd (by simp) h,?_⟩;refine bm ?_;rw[List.append_assoc]at h9;exact bK func66 rfl ⟨rfl,dK.late (dJ.tr aD) (h6.wN h9 ((o3.dt uy).tr R1))⟩
 ·intro join;refine Br 9 14 rfl rfl (by decide+kernel) rfl rfl rfl rfl ?_ ?_
  ·refine aV (fst:=[]) (cap:=[]) rfl ((hI br).mono ?_);rintro r w3⟨⟨ov,cv,rfl,ho,hc,no,nc⟩,aw⟩;obtain⟨oa,oc,rfl⟩:=ho.1.form;obtain⟨ca,cc,rfl⟩:=hc.form;refine⟨fun _=>hS.tr aw,?_⟩;refine tk 10 ?_;refine tk 11 ?_;refine tk 12 ?_;refine tk 13 ?_;refine a8 14 rfl (bO _ rfl sG ?_);intro w4 x6 im cz ax fk;refine⟨fun _=>(hS.tr aw).tr ax,?_⟩;have z12:=hS.size;have CJ:=aw.size;exact join _ w4 ⟨x6,oa,oc,ca,cc,fk,by omega,ho.1.aA ax,hc.aA ax,fun b q n k he h0=>Nat.le_trans z12 (no b q n k he h0),fun b q n k he h0=>Nat.le_trans z12 (nc b q n k he h0),ho.1.nf (fp:=[]) (fun _ _ _ _ _ _ h=>nomatch h) (fun k hk=>.inr (by rw[List.mem_singleton.1 hk];omega)),hc.nf (fp:=[]) (fun _ _ _ _ _ _ h=>nomatch h) (fun k hk=>.inr (by rw[List.mem_singleton.1 hk];omega)),(hS.tr aw).tr ax,⟨rfl,rfl,rfl,rfl,rfl,trivial⟩⟩
  ·refine bO _ rfl sG ?_;intro w3 x6 im cw aw lK;refine⟨fun _=>hS.tr aw,?_⟩;refine dC 9 (hI (br.tr aw)) ?_;rintro r w4⟨⟨ov,cv,rfl,ho,hc,no,nc⟩,ax⟩;obtain⟨oa,oc,rfl⟩:=ho.1.form;obtain⟨ca,cc,rfl⟩:=hc.form;refine⟨fun _=>(hS.tr aw).tr ax,?_⟩;refine tk 10 ?_;refine tk 11 ?_;refine tk 12 ?_;refine tk 13 ?_;have z12:=hS.size;have CJ:=aw.size;exact join _ w4 ⟨x6,oa,oc,ca,cc,ax.af lK (by simp),by omega,ho.1,hc,fun b q n k he h0=>Nat.le_trans (Nat.le_trans z12 CJ) (no b q n k he h0),fun b q n k he h0=>Nat.le_trans (Nat.le_trans z12 CJ) (nc b q n k he h0),fun b q n k he h0 hm=>by have:=no b q n k he h0;rw[List.mem_singleton.1 hm]at this;omega,fun b q n k he h0 hm=>by have:=nc b q n k he h0;rw[List.mem_singleton.1 hm]at this;omega,(hS.tr aw).tr ax,⟨rfl,rfl,rfl,rfl,rfl,trivial⟩⟩
end
abbrev vK:Nat:=46
theorem FU:dH prog 22 1=true:=by kernel_rfl
theorem FV:dH prog 28 1=true:=by kernel_rfl
theorem WC(n:Int):prog.built 88 [(0,.int .i64 1),(1,.int .i64 n)]=some (jU (1,n,0,0)).toArray:=by kernel_rfl
theorem WD(m:Nat):prog.built 88 [(0,.int .i64 2),(3,.int .u64 (m:Nat))]=some (jU (2,0,0,m)).toArray:=by kernel_rfl
theorem WE(n k:Int)(m:Nat):prog.built 88 [(0,.int .i64 3),(1,.int .i64 n),(2,.int .i64 k),(3,.int .u64 (m:Nat))]=some (jU (3,n,k,m)).toArray:=by kernel_rfl
theorem J4:OZ prog 2 86 .u64=true:=by decide+kernel
theorem KL(n:Int):IntKind.u64.wrap n=((j8 n:Nat):Int):=by
 rw[IntKind.wrap_u64];unfold j8;omega
section
variable{w00 w:World}{c d x1:Nat}{fw fd:List Nat}{L:List UInt8}{s:Ds}
theorem ahN(h:Ck w00 w c d fw fd L s)(hb:ak w x1 [.pointer (some ⟨c,0,none⟩)] vK)(nv:Value):aC prog 59 [nv,.pointer (some ⟨x1,0,none⟩)] w fun r w'=>r=.tuple #[]∧dK w00 w w' c d fw fd L {s with bI:=[]}:=by
 obtain⟨tv,iv,lv,fl,hD,ky⟩:=h.dk;refine aG 9 func59 ?_;refine lB hb ?_;refine au ?_;refine ai _ (aB rfl (h.ct.rW.1)) ?_;refine au ?_;refine aj (aH [.slice none 0 0] rfl FU hD.bk (by simp) (lg rfl) ?_);intro w1 bt ah js;have Qq:ak w1 d [.slice none 0 0,iv,lv] TD:=js;obtain⟨R6,k5⟩:=hD.ug (t:=[]) (ae.refl _ _) (Own.nil w _ TS 1) (fun k hk=>by simp[aW,Value.ownBlock]at hk) ah Qq;rw[←ky]at k5;refine au ?_;exact bK func59 rfl ⟨rfl,h.turns ⟨_,_,_,_,R6,rfl⟩ k5⟩
theorem ahO(h:Ck w00 w c d fw fd L s)(hb:ak w x1 [.pointer (some ⟨c,0,none⟩)] vK){nv:Value}{n:List Int}(hn:bl w w00.heap.size nv n)(np:∀k∈aW nv,k∉fw∧k∉fd):aC prog 60 [nv,.pointer (some ⟨x1,0,none⟩)] w fun r w'=>r=.tuple #[]∧∃sq,Ck w00 w' c d fw sq L {s with inp:=n}∧ae fd w w'∧∀k∈sq,k∈fd∨k∈aW nv:=by
 obtain⟨tv,iv,lv,fl,hD,ky⟩:=h.dk;obtain⟨na,nc,jT⟩:=hn.form;refine aG 10 func60 ?_;refine lB hb ?_;refine au ?_;refine ai _ (aB rfl (h.ct.rW.1)) ?_;refine au ?_;refine aj (xS [nv] rfl rfl rfl (by rw[jT];rfl) FV hD.bk (by simp) (lg (by rw[jT];rfl)) ?_);intro w1 bt ah js;have Qq:ak w1 d [tv,nv,lv] TD:=js;obtain⟨R6,oS⟩:=hD.te hn (fun k hk hm=>(np k hk).2 (by rw[ky];exact eX.2 (.inr (.inr (.inr hm))))) ah Qq;rw[←ky]at oS;have bH:∀k∈rz d tv nv fl,k∈fd∨k∈aW nv:=fun k hk=>by
  rw[ky];rcases eX.1 hk with h1|h1|h1|h1
  ·exact .inl (eX.2 (.inl h1))
  ·exact .inl (eX.2 (.inr (.inl h1)))
  ·exact .inr h1
  ·exact .inl (eX.2 (.inr (.inr (.inr h1))))
 refine au ?_;refine bK func60 rfl ⟨rfl,_,⟨h.k0.trans oS fun k hm=>.inr (h.dk.lt k hm).1,h.ct.keep oS h.dj,⟨_,_,_,_,R6,rfl⟩,fun k hk hm=>?_⟩,oS,bH⟩;rcases bH k hm with h1|h1
 ·exact h.dj k hk h1
 ·exact(np k h1).1 hk
theorem ahP(hw:Lw w00)(h:Ck w00 w c d fw fd L s)(hL:L.length≤700000000000)(pS:fD s.bI≤100000)(iY:s.inp.length≤100000)(hb:ak w x1 [.pointer (some ⟨c,0,none⟩)] vK)(nv:Value):aC prog 61 [nv,.pointer (some ⟨x1,0,none⟩)] w fun r w'=>r=.tuple #[]∧dK w00 w w' c d fw fd (L++(jL s (qg s)).2) (jL s (qg s)).1:=by
 refine aG 7 func61 ?_;refine lB hb ?_;refine lB hb ?_;refine oC (T1 (g:=63) (fst:=[.pointer (some ⟨c,0,none⟩)]) (cap:=[]) (qg s) (by decide+kernel) hw h hL pS fun vs body w1 x F hX h1 _ hP hF=>ahL hw h1 hL iY hP hF (zp hX).1) ?_;rintro r w1⟨rfl,h1⟩;refine au ?_;exact bK func61 rfl ⟨rfl,h1⟩
theorem tZ{nv:Value}{n:List Int}{B:Nat}(hn:bl w B nv n){i:Nat}(hi:i<n.length):∃g cap,nv=.slice (some ⟨g,0,none⟩) n.length cap∧w.cell? ⟨g,i,none⟩=some (.int .i64 (n.getD i 0))∧g<w.heap.size:=by
 obtain⟨g,cap,h1,h2⟩:=hn.at (i:=i) (x:=n.getD i 0) (by rw[List.getElem?_eq_getElem hi,List.getD_eq_getElem?_getD,List.getElem?_eq_getElem hi];rfl);refine⟨g,cap,h1,h2,?_⟩;exact(hn.lt g (iM.2 (by rw[h1];rfl))).2
theorem ags(hw:Lw w00)(h:Ck w00 w c d fw fd L s)(cT:j7 s)(hL:L.length≤700000000000)(iY:s.inp.length≤100000)(hb:ak w x1 [.pointer (some ⟨c,0,none⟩)] vK){x2:Nat}{nv:Value}{n:List Int}{B:Nat}(hn:bl w B nv n)(h1:n.length=1)(aX:ak w x2 [nv] 28) {F:Nat→Prop}{x:Value}{vs:List aJ}{body:List ST}(hp:iN F w x vs body)(hF:In F w)(cX:dq vs body=0)(o2:oK body):aC prog 65 [x,.pointer (some ⟨x1,0,none⟩),.pointer (some ⟨x2,0,none⟩)] w fun r w'=>r=.tuple #[]∧dK w00 w w' c d fw fd (L++(tY s (n.getD 0 0) vs body).2) (tY s (n.getD 0 0) vs body).1:=by
 have su:=hp;obtain⟨vv,bv,rfl,hv,jt⟩:=hp;obtain⟨av,aY,rfl⟩:=hv.form;obtain⟨ab,bh,rfl⟩:=jt.form;obtain⟨g,cap,jT,fB,hg⟩:=tZ hn (i:=0) (by omega);rw[h1]at jT;refine aG 10 func65 ?_;refine au ?_;refine aj (bY [.slice av vs.length aY,.slice ab body.length bh] rfl ?_);intro w1 x3 fX bt ah cm;refine au ?_;refine bC (fun w'=>ae [] w1 w') [5] bE ?_;have hS:ae [] w1 w1.drew:=(ae.refl _ _).drew;generalize w1.drew=w2 at*;have br:=ah.tr hS;subst jT;refine aI 0 (.pointer (some ⟨c,0,none⟩)) rfl (fun w9 aq=>aB rfl (((ah.tr aq).af hb (by simp)).cell rfl)) hS ?_;refine aI 1 (.agg #[.slice av vs.length aY,.slice ab body.length bh]) rfl (fun w9 aq=>bF [.slice av vs.length aY,.slice ab body.length bh] rfl ((aq.af cm (by simp)).range (by rfl))) hS ?_;refine aI 2 (.slice (some ⟨g,0,none⟩) 1 cap) rfl (fun w9 aq=>aB rfl (((ah.tr aq).af aX (by simp)).cell rfl)) hS ?_;refine bD 3 _ rfl (fun w=>bJ (b:=g) (q:=0) (sz:=1) (len:=1) 0 rfl (by decide) w) ?_;refine aI 4 (.int .i64 (n.getD 0 0)) rfl (fun w9 aq=>aB rfl (tQ (ah.tr aq) fB)) hS ?_;refine dC 5 (agq (n.getD 0 0) hw (h.aA br) cT hL iY (su.keep br hF.stays) (hF.keep br) cX o2) ?_;rintro r w3⟨rfl,h3⟩;refine⟨fun h=>absurd (by simp) h,?_⟩;refine bm ?_;exact bK func65 rfl ⟨rfl,dK.late br h3⟩
theorem ahQ(hw:Lw w00)(h:Ck w00 w c d fw fd L s)(cT:j7 s)(hL:L.length≤700000000000)(pS:fD s.bI≤100000)(iY:s.inp.length≤100000)(hb:ak w x1 [.pointer (some ⟨c,0,none⟩)] vK){nv:Value}{n:List Int}{B:Nat}(hn:bl w B nv n)(h1:n.length=1):aC prog 64 [nv,.pointer (some ⟨x1,0,none⟩)] w fun r w'=>r=.tuple #[]∧dK w00 w w' c d fw fd (L++(jL s (tY s (n.getD 0 0))).2) (jL s (tY s (n.getD 0 0))).1:=by
 obtain⟨na,nc,jT⟩:=hn.form;refine aG 6 func64 ?_;refine au ?_;refine aj (Vi [nv] rfl rfl (by rw[jT];rfl) ?_);intro w1 x2 gi bt ah cm;refine lB (ah.af hb (by simp)) ?_;refine oC (T1 (g:=65) (fst:=[]) (cap:=[.pointer (some ⟨x1,0,none⟩),.pointer (some ⟨x2,0,none⟩)]) (tY s (n.getD 0 0)) (by decide+kernel) hw (h.aA ah) hL pS fun vs body w2 x F hX h2 an hP hF=>ags hw h2 cT hL iY ((ah.tr an).af hb (by simp)) (hn.keep (ah.tr an) fun _ _=>by simp) h1 (an.af cm (by simp)) hP hF (zp hX).1 (zp hX).2) ?_;rintro r w2⟨rfl,h2⟩;refine au ?_;exact bK func64 rfl ⟨rfl,dK.late ah h2⟩
theorem ahR(hw:Lw w00)(h:Ck w00 w c d fw fd L s)(cT:j7 s)(hL:L.length≤700000000000)(mr:s.cnt≤300000)(vd:s.fZ.isSome=true)(hb:ak w x1 [.pointer (some ⟨c,0,none⟩)] vK){nv:Value}{n:List Int}{B:Nat}(hn:bl w B nv n)(h1:n.length=1):aC prog 67 [nv,.pointer (some ⟨x1,0,none⟩)] w fun r w'=>r=.tuple #[]∧dK w00 w w' c d fw fd (L++(gE s (1,n.getD 0 0,0,0)).2) (gE s (1,n.getD 0 0,0,0)).1:=by
 obtain⟨g,cap,jT,fB,hg⟩:=tZ hn (i:=0) (by omega);rw[h1]at jT;subst jT;refine aG 9 func67 ?_;refine bC (fun w'=>ae [] w w') [5] bE ?_;have hS:ae [] w w.drew:=(ae.refl _ _).drew;generalize w.drew=w2 at*;refine aI 0 (.pointer (some ⟨c,0,none⟩)) rfl (fun w9 aq=>aB rfl ((ae.af aq hb (by simp)).cell rfl)) hS ?_;refine tk 1 ?_;refine bD 2 _ rfl (fun w=>bJ (b:=g) (q:=0) (sz:=1) (len:=1) 0 rfl (by decide) w) ?_;refine aI 3 (.int .i64 (n.getD 0 0)) rfl (fun w9 aq=>aB rfl (tQ aq fB)) hS ?_;refine bD 4 _ rfl (fun w=>bL _ rfl rfl (WC (n.getD 0 0)) w) ?_;refine dC 5 (step_ret (1,n.getD 0 0,0,0) hw (h.aA hS) cT hL mr vd (show(0:Int)<9223372036854775808 by decide)) ?_;rintro r w3⟨rfl,h3⟩;refine⟨fun h=>absurd (by simp) h,?_⟩;refine bm ?_;exact bK func67 rfl ⟨rfl,dK.late hS h3⟩
theorem ahS(hw:Lw w00)(h:Ck w00 w c d fw fd L s)(cT:j7 s)(hL:L.length≤700000000000)(mr:s.cnt≤300000)(vd:s.fZ.isSome=true)(hb:ak w x1 [.pointer (some ⟨c,0,none⟩)] vK){nv:Value}{n:List Int}{B:Nat}(hn:bl w B nv n)(h1:n.length=1):aC prog 69 [nv,.pointer (some ⟨x1,0,none⟩)] w fun r w'=>r=.tuple #[]∧dK w00 w w' c d fw fd (L++(gE s (2,0,0,j8 (n.getD 0 0))).2) (gE s (2,0,0,j8 (n.getD 0 0))).1:=by
 obtain⟨g,cap,jT,fB,hg⟩:=tZ hn (i:=0) (by omega);rw[h1]at jT;subst jT;refine aG 10 func69 ?_;refine bC (fun w'=>ae [] w w') [6] bE ?_;have hS:ae [] w w.drew:=(ae.refl _ _).drew;generalize w.drew=w2 at*;refine aI 0 (.pointer (some ⟨c,0,none⟩)) rfl (fun w9 aq=>aB rfl ((ae.af aq hb (by simp)).cell rfl)) hS ?_;refine tk 1 ?_;refine bD 2 _ rfl (fun w=>bJ (b:=g) (q:=0) (sz:=1) (len:=1) 0 rfl (by decide) w) ?_;refine aI 3 (.int .i64 (n.getD 0 0)) rfl (fun w9 aq=>aB rfl (tQ aq fB)) hS ?_;refine bD 4 (.int .u64 ((j8 (n.getD 0 0):Nat):Int)) rfl (fun w=>JE .i64 .u64 _ _ rfl rfl J4 (KL _) w) ?_;refine bD 5 _ rfl (fun w=>bL _ rfl rfl (WD (j8 (n.getD 0 0))) w) ?_;refine dC 6 (step_ret (2,0,0,j8 (n.getD 0 0)) hw (h.aA hS) cT hL mr vd (show(0:Int)<9223372036854775808 by decide)) ?_;rintro r w3⟨rfl,h3⟩;refine⟨fun h=>absurd (by simp) h,?_⟩;refine bm ?_;exact bK func69 rfl ⟨rfl,dK.late hS h3⟩
theorem ahT(hw:Lw w00)(h:Ck w00 w c d fw fd L s)(cT:j7 s)(hL:L.length≤700000000000)(mr:s.cnt≤300000)(vd:s.fZ.isSome=true)(hb:ak w x1 [.pointer (some ⟨c,0,none⟩)] vK){nv:Value}{n:List Int}{B:Nat}(hn:bl w B nv n)(h1:n.length=3)(si:fM n):aC prog 70 [nv,.pointer (some ⟨x1,0,none⟩)] w fun r w'=>r=.tuple #[]∧dK w00 w w' c d fw fd (L++(gE s (3,n.getD 0 0,n.getD 1 0,j8 (n.getD 2 0))).2) (gE s (3,n.getD 0 0,n.getD 1 0,j8 (n.getD 2 0))).1:=by
 obtain⟨g,cap,jT,fB,hg⟩:=tZ hn (i:=0) (by omega);obtain⟨_,_,qp,ak4,_⟩:=tZ hn (i:=1) (by omega);obtain⟨_,_,G5,ak5,_⟩:=tZ hn (i:=2) (by omega);rw[qp]at jT G5;cases jT;cases G5;rw[h1]at qp;subst qp;have ani:=Jv si 1;refine aG 16 func70 ?_;refine bC (fun w'=>ae [] w w') [12] bE ?_;have hS:ae [] w w.drew:=(ae.refl _ _).drew;generalize w.drew=w2 at*;refine aI 0 (.pointer (some ⟨c,0,none⟩)) rfl (fun w9 aq=>aB rfl ((ae.af aq hb (by simp)).cell rfl)) hS ?_;refine tk 1 ?_;refine bD 2 _ rfl (fun w=>bJ (b:=g) (q:=0) (sz:=1) (len:=3) 0 rfl (by decide) w) ?_;refine aI 3 (.int .i64 (n.getD 0 0)) rfl (fun w9 aq=>aB rfl (tQ aq fB)) hS ?_;refine tk 4 ?_;refine bD 5 _ rfl (fun w=>bJ (b:=g) (q:=0) (sz:=1) (len:=3) 1 rfl (by decide) w) ?_;refine aI 6 (.int .i64 (n.getD 1 0)) rfl (fun w9 aq=>aB rfl (tQ aq ak4)) hS ?_;refine tk 7 ?_;refine bD 8 _ rfl (fun w=>bJ (b:=g) (q:=0) (sz:=1) (len:=3) 2 rfl (by decide) w) ?_;refine aI 9 (.int .i64 (n.getD 2 0)) rfl (fun w9 aq=>aB rfl (tQ aq ak5)) hS ?_;refine bD 10 (.int .u64 ((j8 (n.getD 2 0):Nat):Int)) rfl (fun w=>JE .i64 .u64 _ _ rfl rfl J4 (KL _) w) ?_;refine bD 11 _ rfl (fun w=>bL _ rfl rfl (WE (n.getD 0 0) (n.getD 1 0) (j8 (n.getD 2 0))) w) ?_;refine dC 12 (step_ret (3,n.getD 0 0,n.getD 1 0,j8 (n.getD 2 0)) hw (h.aA hS) cT hL mr vd (by have:=ani.2;simp only;omega)) ?_;rintro r w3⟨rfl,h3⟩;refine⟨fun h=>absurd (by simp) h,?_⟩;refine bm ?_;exact bK func70 rfl ⟨rfl,dK.late hS h3⟩
theorem Oi{m:Md}{p:Pr}(hm:m.state≤14)(hp:p.2=false):dm (lU m p):=by
 rw[NW m p hp];unfold dm;split
 ·omega
 ·split<;>omega
theorem ahU(hw:Lw w00)(h:Ck w00 w c d fw fd L s)(cT:j7 s)(hL:L.length≤700000000000)(mr:s.cnt≤300000)(vd:s.fZ.isSome=true)(hb:ak w x1 [.pointer (some ⟨c,0,none⟩)] vK)(cJ:x1∉fw)(nv:Value):aC prog 71 [nv,.pointer (some ⟨x1,0,none⟩)] w fun r w'=>r=.tuple #[]∧dK w00 w w' c d fw fd (L++(ve s).2) (ve s).1:=by
 obtain⟨⟨vs,body,inp,x⟩,hx⟩:=Option.isSome_iff_exists.1 vd;obtain⟨tv,iv,lv,fl,hD,ky⟩:=h.dk;have xA:=hD.lf;rw[hx]at xA;obtain⟨y,BL,z,rfl,R5,H8,H9,hZ⟩:=xA.inv cT hx;obtain⟨cX,o2,fF,Qr,g,hg,B8⟩:=cT.lf _ _ _ _ hx;obtain⟨bw,du⟩:=tP cX;obtain⟨R7,R8,Ib⟩:=hZ.aF cX bw;have aZ:=hZ.stat cX bw;obtain⟨rc,ro⟩:=B8.rg o2 Qr;rw[H9]at R7 R8 Ib aZ;have e:ve s=(s,tb (lU x.m x.p) x.p.1 x.m.cells):=by
  unfold ve;rw[hx]
 rw[e];refine aG 15 func71 ?_;have ff:d∉fw:=fun hm=>h.dj d hm (by rw[ky];exact eX.2 (.inl rfl));refine bC (fun w'=>ak w' x1 [.pointer (some ⟨c,0,none⟩)] vK∧w'.cell? ⟨c,0,none⟩=some (.pointer (some ⟨d,0,none⟩))∧ak w' d [tv,iv,.pointer (some ⟨y,0,none⟩)] TD) [] bE ?_;have hS:ae [] w w.drew:=(ae.refl _ _).drew;generalize w.drew=w2 at*;have l9:ak w2 x1 [.pointer (some ⟨c,0,none⟩)] vK∧w2.cell? ⟨c,0,none⟩=some (.pointer (some ⟨d,0,none⟩))∧ak w2 d [tv,iv,.pointer (some ⟨y,0,none⟩)] TD:=⟨hS.af hb (by simp),(h.ct.aA hS).rW.1,hS.af hD.bk (by simp)⟩;refine aI 0 (.pointer (some ⟨c,0,none⟩)) rfl (fun w9 aq=>aB rfl (aq.1.cell rfl)) l9 ?_;refine tk 1 ?_;refine tk 2 ?_;refine aI 3 (.pointer (some ⟨c,0,none⟩)) rfl (fun w9 aq=>aB rfl (aq.1.cell rfl)) l9 ?_;refine tk 4 ?_;refine tk 5 ?_;refine aI 6 (.pointer (some ⟨d,0,none⟩)) rfl (fun w9 aq=>aB rfl aq.2.1) l9 ?_;refine tk 7 ?_;refine tk 8 ?_;refine aI 9 (.pointer (some ⟨y,0,none⟩)) rfl (fun w9 aq=>aB rfl (aq.2.2.cell rfl)) l9 ?_;refine dC 10 (aed (LV.keep H8 hS fun k hk=>by cases hk) hZ mr cX bw) ?_;rintro r w3⟨⟨ov,cv,rfl,ho,hc,no,nc⟩,aw⟩;have h3:=h.aA (hS.tr aw);have aQ:=aw.af l9.1 (by simp);have AA:=aw.af l9.2.2 (by simp);refine⟨fun _=>⟨aQ,h3.ct.rW.1,AA⟩,?_⟩;rw[H9]at ho hc⊢;refine dC 11 (UF (Oi aZ Ib) ho.1 hc (h.nf no hS.size) (h.nf nc hS.size) ro rc hw.lt h3.k0 h3.ct (by omega)) ?_;rintro r w4⟨rfl,Mg,h4,kf⟩;refine⟨fun _=>⟨kf.1.af aQ cJ,h4.rW.1,kf.1.af AA ff⟩,?_⟩;refine bm ?_;exact bK func71 rfl ⟨rfl,dK.late (hS.tr aw) (h3.wN h4 kf)⟩
end
def Qs(s:Ds)(n:List Int):Nat→Ds×List UInt8
 |0=>({s with bI:=[]},[])
 |1=>({s with inp:=n},[])
 |2=>jL s (qg s)
 |3=>jL s (tY s (n.getD 0 0))
 |4=>gE s (1,n.getD 0 0,0,0)
 |5=>gE s (2,0,0,j8 (n.getD 0 0))
 |6=>gE s (3,n.getD 0 0,n.getD 1 0,j8 (n.getD 2 0))
 |_=>ve s
theorem WG{wd:List UInt8}{n:List Int}{liv:Bool}{i:Nat}(h:qm wd n.length liv i=true):wd=u_ i∧(j6 i=-1∨j6 i=(n.length:Int))∧(liv=true∨w_ i=false):=by
 simp only[qm,Bool.and_eq_true,beq_iff_eq,decide_eq_true_eq,Bool.or_eq_true,Bool.not_eq_true']at h;exact⟨h.1.symm,h.2.1,h.2.2⟩
theorem agt{s:Ds}{wd:List UInt8}{n:List Int}{j:Nat}(hj:j<8)(h:qm wd n.length s.fZ.isSome j=true):gf s wd n=some (Qs s n j):=by
 obtain⟨rfl,h2,h3⟩:=WG h;have:j=0∨j=1∨j=2∨j=3∨j=4∨j=5∨j=6∨j=7:=by omega
 have hs:w_ j=true→s.fZ.isNone=false:=fun hl=>by
  rcases h3 with h3|h3
  ·cases ho:s.fZ with
   |none=>rw[ho]at h3;cases h3
   |some x=>rfl
  ·rw[hl]at h3;cases h3
 unfold gf;rcases this with rfl|rfl|rfl|rfl|rfl|rfl|rfl|rfl
 all_goals simp only[j6]at h2
 ·have:n.length=0:=by omega
  rw[if_pos ⟨rfl,this⟩];rfl
 ·rw[if_neg (fun h=>absurd h.1 (by decide)),if_pos (show u_ 1=Bu from rfl)];rfl
 ·have:n.length=0:=by omega
  rw[if_neg (fun h=>absurd h.1 (by decide)),if_neg (by decide),if_pos ⟨rfl,this⟩];rfl
 ·have:n.length=1:=by omega
  rw[if_neg (fun h=>absurd h.1 (by decide)),if_neg (by decide),if_neg (fun h=>absurd h.1 (by decide)),if_pos ⟨rfl,this⟩];rfl
 ·have:n.length=1:=by omega
  rw[if_neg (fun h=>absurd h.1 (by decide)),if_neg (by decide),if_neg (fun h=>absurd h.1 (by decide)),if_neg (fun h=>absurd h.1 (by decide)),if_neg (by rw[hs rfl];decide),if_pos ⟨rfl,this⟩];rfl
 ·have:n.length=1:=by omega
  rw[if_neg (fun h=>absurd h.1 (by decide)),if_neg (by decide),if_neg (fun h=>absurd h.1 (by decide)),if_neg (fun h=>absurd h.1 (by decide)),if_neg (by rw[hs rfl];decide),if_neg (fun h=>absurd h.1 (by decide)),if_pos ⟨rfl,this⟩];rfl
 ·have:n.length=3:=by omega
  rw[if_neg (fun h=>absurd h.1 (by decide)),if_neg (by decide),if_neg (fun h=>absurd h.1 (by decide)),if_neg (fun h=>absurd h.1 (by decide)),if_neg (by rw[hs rfl];decide),if_neg (fun h=>absurd h.1 (by decide)),if_neg (fun h=>absurd h.1 (by decide)),if_pos ⟨rfl,this⟩];rfl
 ·have:n.length=0:=by omega
  rw[if_neg (fun h=>absurd h.1 (by decide)),if_neg (by decide),if_neg (fun h=>absurd h.1 (by decide)),if_neg (fun h=>absurd h.1 (by decide)),if_neg (by rw[hs rfl];decide),if_neg (fun h=>absurd h.1 (by decide)),if_neg (fun h=>absurd h.1 (by decide)),if_neg (fun h=>absurd h.1 (by decide)),if_pos ⟨rfl,this⟩];rfl
theorem ajR{wd:List UInt8}{n:List Int}{liv:Bool}{i:Nat}(h1:wd=u_ i)(h2:j6 i=-1∨j6 i=(n.length:Int))(h3:liv=true∨w_ i=false):qm wd n.length liv i=true:=by
 subst h1;unfold qm;rw[decide_eq_true h2];rcases h3 with rfl|h3
 ·simp
 ·rw[h3];simp
theorem ahV{s:Ds}{wd:List UInt8}{n:List Int}(h:∀i<8,qm wd n.length s.fZ.isSome i=false):gf s wd n=none:=by
 have no:∀i<8,(wd=u_ i→(j6 i=-1∨j6 i=(n.length:Int))→(s.fZ.isSome=true∨w_ i=false)→False):=fun i hi h1 h2 h3=>by
  have:=h i hi;rw[ajR h1 h2 h3]at this;cases this
 unfold gf;rw[if_neg fun h=>no 0 (by decide) h.1 (.inr (by simp only[j6];omega)) (.inr rfl),if_neg fun h:wd=Bu=>no 1 (by decide) h (.inl rfl) (.inr rfl),if_neg fun h=>no 2 (by decide) h.1 (.inr (by simp only[j6];omega)) (.inr rfl),if_neg fun h=>no 3 (by decide) h.1 (.inr (by simp only[j6];omega)) (.inr rfl)];cases ho:s.fZ with
 |none=>rfl
 |some x=>
  have hl:s.fZ.isSome=true:=by rw[ho];rfl
  rw[if_neg (by simp),if_neg fun h=>no 4 (by decide) h.1 (.inr (by simp only[j6];omega)) (.inl hl),if_neg fun h=>no 5 (by decide) h.1 (.inr (by simp only[j6];omega)) (.inl hl),if_neg fun h=>no 6 (by decide) h.1 (.inr (by simp only[j6];omega)) (.inl hl),if_neg fun h=>no 7 (by decide) h.1 (.inr (by simp only[j6];omega)) (.inl hl)]
theorem OJ:((prog.info? 28).bind (·.zero)).map (·.cells)=some [Value.slice none 0 0].toArray:=by kernel_rfl
theorem uf.form{B:Nat}{w:World}{lv:Value}{fl:List Nat}{cnt:Nat}{o:Option (List aJ×List ST×List Int×Lf)}(h:uf B w lv fl cnt o):if o.isSome then∃ad,lv=.pointer (some ad)else lv=.pointer none:=by
 cases o with
 |none=>exact h.1
 |some q=>
  obtain⟨y,_,_,h1,_⟩:=h;exact⟨_,h1⟩
section
variable{w00 w:World}{c d:Nat}{fw fd:List Nat}{L:List UInt8}{s:Ds}
theorem ahW(wd:List UInt8){bv:Value}{r:List (List UInt8)}(hw:Lw w00)(h:Ck w00 w c d fw fd L s)(cT:j7 s)(hL:L.length≤700000000000)(pS:fD s.bI≤100000)(iY:s.inp.length≤100000)(mr:s.cnt≤300000)(hr:gz w bv r)(oY:r.length≤1000000)(hl:∀x∈r,x.length≤1000000):aC prog 24 [.pointer (some ⟨c,0,none⟩),.string (str wd),bv] w fun q w'=>((ly r).bind (gf s wd)=none∧q=.bool false∧ae [] w w')∨∃y,(ly r).bind (gf s wd)=some y∧q=.bool true∧dK w00 w w' c d fw fd (L++y.2) y.1:=by
 obtain⟨tv,iv,lv,fl,hD,ky⟩:=h.dk;have qw:=hD.lf.form;refine aG 32 func24 ?_;refine au ?_;refine aj (bY [.pointer (some ⟨c,0,none⟩)] rfl ?_);intro w1 x3 fX bt ah cm;refine aj (bY [.string (str wd)] rfl ?_);intro w2 x4 cy cE an gZ;have br:=ah.tr an;refine oC (ad_ (hw.keep (h.k0.tr br)) (hr.aA br) oY hl) ?_;rintro q w3⟨hq,aw⟩;have bn:=br.tr aw;have R9:=br.size;have z03:=bn.size;cases hn:ly r with
 |none=>
  rw[hn]at hq;have lL:q=.tuple #[.slice none 0 0,.bool false]:=hq;subst lL;refine au ?_;refine aj (bO _ rfl OJ ?_);intro w4 x7 sd cz ax fk;refine aj (aH [.slice none 0 0] rfl FV fk (by simp) (lg rfl) ?_);intro w5 iV aE jg;refine au ?_;exact ay func24 rfl (.inl ⟨rfl,rfl,(bn.tr ax).aO aE (by omega)⟩)
 | some n=>
  rw[hn]at hq;obtain⟨nv,lL,bN⟩:=hq;subst lL;obtain⟨na,nc,jT⟩:=bN.form;have Em:=(A2 hn).2;refine au ?_;refine aj (bO _ rfl OJ ?_);intro w4 x7 sd cz ax fk;refine aj (xS [nv] rfl rfl rfl (by rw[jT];rfl) FV fk (by simp) (lg (by rw[jT];rfl)) ?_);intro w5 iV aE jg;have yA:ak w5 x7 [nv] 28:=jg;have kN:ae [] w3 w5:=ax.aO aE (by omega);have cK:=bn.tr kN;have Z6:=((an.tr aw).tr kN).af cm (by simp);have G6:=(aw.tr kN).af gZ (by simp);refine lB Z6 ?_;refine oC (ae2 c w5) ?_;rintro q w6⟨⟨x1,g,rfl,aM,hg,cJ,pM⟩,aD⟩;have fy:=cK.tr aD;refine au ?_;obtain⟨p0,v0,hcp,_,RW⟩:=h.ct;refine oC (ae3 (liv:=s.fZ.isSome) hg (aD.af G6 (by simp)) (aD.af yA (by simp)) jT (aD.af Z6 (by simp)) (fy.af hcp.bk (by simp)) (fy.af hD.bk (by simp)) qw) ?_;rintro q w7⟨hq,aN⟩;have lF:=fy.tr aN;have zZ:=(kN.tr aD).tr aN;have z05:=cK.size;have Li:=h.fresh (k:=x1) (by omega);refine au ?_;rcases hq with⟨j,hj,rfl,Eo,_⟩|⟨rfl,ku⟩
  rotate_left
  ·refine ye ?_;refine au ?_;exact ay func24 rfl (.inl ⟨ahV ku,rfl,lF⟩)
  refine aL ?_;refine au ?_;have z7:=agt hj Eo;obtain⟨_,hK,Mj⟩:=WG Eo;have np:∀k∈aW nv,k∉fw∧k∉fd:=fun k hk=>h.fresh (by have:=(bN.lt k hk).1;omega);refine bC (fun w'=>ae [] w7 w') [6] bE ?_;have hS:ae [] w7 w7.drew:=(ae.refl _ _).drew;generalize w7.drew=w8 at*;have kP:=lF.tr hS;have eP:=aN.tr hS;have h8:=h.aA kP;have cB:=eP.af aM (by simp);have mS:bl w8 w2.heap.size nv n:=bN.keep (zZ.tr hS) fun _ _=>by simp
  have ak6:j=0∨j=1∨j=2∨j=3∨j=4∨j=5∨j=6∨j=7:=by omega
  rcases ak6 with rfl|rfl|rfl|rfl|rfl|rfl|rfl|rfl
  ·refine tk 0 ?_;refine tk 1 ?_;refine bD 2 _ rfl (fun w=>bJ (b:=g) (q:=0) (sz:=4) (len:=8) 0 rfl (by decide) w) ?_;refine tk 3 ?_;refine aI 4 (sk (td 0) x1) rfl (fun w9 aq=>aB rfl (((aN.tr aq).af hg (by simp)).cell rfl)) hS ?_;refine aI 5 nv rfl (fun w9 aq=>aB rfl ((((aD.tr aN).tr aq).af yA (by simp)).cell rfl)) hS ?_;refine a8 6 rfl (aV (fst:=[]) (cap:=[.pointer (some ⟨x1,0,none⟩)]) rfl ((ahN h8 cB nv).mono ?_));rintro q w9⟨rfl,h9⟩;refine⟨fun h=>absurd (by simp) h,?_⟩;refine bm ?_;refine au ?_;refine ay func24 rfl (.inr ⟨_,z7,rfl,dK.late kP ?_⟩);simpa[Qs]using h9
  ·refine tk 0 ?_;refine tk 1 ?_;refine bD 2 _ rfl (fun w=>bJ (b:=g) (q:=0) (sz:=4) (len:=8) 1 rfl (by decide) w) ?_;refine tk 3 ?_;refine aI 4 (sk (td 1) x1) rfl (fun w9 aq=>aB rfl (((aN.tr aq).af hg (by simp)).cell rfl)) hS ?_;refine aI 5 nv rfl (fun w9 aq=>aB rfl ((((aD.tr aN).tr aq).af yA (by simp)).cell rfl)) hS ?_;refine a8 6 rfl (aV (fst:=[]) (cap:=[.pointer (some ⟨x1,0,none⟩)]) rfl ((ahO h8 cB (mS.low (Nat.le_trans h.k0.size R9)) np).mono ?_));rintro q w9⟨rfl,fd9,h9,bg,AB⟩;refine⟨fun h=>absurd (by simp) h,?_⟩;refine bm ?_;refine au ?_;refine ay func24 rfl (.inr ⟨_,z7,rfl,?_⟩);refine⟨fw,fd9,?_,kP.bG.tr (bg.mono fun k hk=>.inl (List.mem_append.2 (.inr hk))),fun k hk=>.inl hk,fun k hk=>(AB k hk).imp id fun hm=>?_⟩
   ·simpa[Qs]using h9
   ·have:=(bN.lt k hm).1;omega
  ·refine tk 0 ?_;refine tk 1 ?_;refine bD 2 _ rfl (fun w=>bJ (b:=g) (q:=0) (sz:=4) (len:=8) 2 rfl (by decide) w) ?_;refine tk 3 ?_;refine aI 4 (sk (td 2) x1) rfl (fun w9 aq=>aB rfl (((aN.tr aq).af hg (by simp)).cell rfl)) hS ?_;refine aI 5 nv rfl (fun w9 aq=>aB rfl ((((aD.tr aN).tr aq).af yA (by simp)).cell rfl)) hS ?_;refine a8 6 rfl (aV (fst:=[]) (cap:=[.pointer (some ⟨x1,0,none⟩)]) rfl ((ahP hw h8 hL pS iY cB nv).mono ?_));rintro q w9⟨rfl,h9⟩;refine⟨fun h=>absurd (by simp) h,?_⟩;refine bm ?_;refine au ?_;refine ay func24 rfl (.inr ⟨_,z7,rfl,dK.late kP ?_⟩);exact h9
  ·refine tk 0 ?_;refine tk 1 ?_;refine bD 2 _ rfl (fun w=>bJ (b:=g) (q:=0) (sz:=4) (len:=8) 3 rfl (by decide) w) ?_;refine tk 3 ?_;refine aI 4 (sk (td 3) x1) rfl (fun w9 aq=>aB rfl (((aN.tr aq).af hg (by simp)).cell rfl)) hS ?_;refine aI 5 nv rfl (fun w9 aq=>aB rfl ((((aD.tr aN).tr aq).af yA (by simp)).cell rfl)) hS ?_;refine a8 6 rfl (aV (fst:=[]) (cap:=[.pointer (some ⟨x1,0,none⟩)]) rfl ((ahQ hw h8 cT hL pS iY cB mS (by simp only[j6]at hK;omega)).mono ?_));rintro q w9⟨rfl,h9⟩;refine⟨fun h=>absurd (by simp) h,?_⟩;refine bm ?_;refine au ?_;refine ay func24 rfl (.inr ⟨_,z7,rfl,dK.late kP ?_⟩);exact h9
  ·refine tk 0 ?_;refine tk 1 ?_;refine bD 2 _ rfl (fun w=>bJ (b:=g) (q:=0) (sz:=4) (len:=8) 4 rfl (by decide) w) ?_;refine tk 3 ?_;refine aI 4 (sk (td 4) x1) rfl (fun w9 aq=>aB rfl (((aN.tr aq).af hg (by simp)).cell rfl)) hS ?_;refine aI 5 nv rfl (fun w9 aq=>aB rfl ((((aD.tr aN).tr aq).af yA (by simp)).cell rfl)) hS ?_;refine a8 6 rfl (aV (fst:=[]) (cap:=[.pointer (some ⟨x1,0,none⟩)]) rfl ((ahR hw h8 cT hL mr (Mj.resolve_right (by decide)) cB mS (by simp only[j6]at hK;omega)).mono ?_));rintro q w9⟨rfl,h9⟩;refine⟨fun h=>absurd (by simp) h,?_⟩;refine bm ?_;refine au ?_;refine ay func24 rfl (.inr ⟨_,z7,rfl,dK.late kP ?_⟩);exact h9
  ·refine tk 0 ?_;refine tk 1 ?_;refine bD 2 _ rfl (fun w=>bJ (b:=g) (q:=0) (sz:=4) (len:=8) 5 rfl (by decide) w) ?_;refine tk 3 ?_;refine aI 4 (sk (td 5) x1) rfl (fun w9 aq=>aB rfl (((aN.tr aq).af hg (by simp)).cell rfl)) hS ?_;refine aI 5 nv rfl (fun w9 aq=>aB rfl ((((aD.tr aN).tr aq).af yA (by simp)).cell rfl)) hS ?_;refine a8 6 rfl (aV (fst:=[]) (cap:=[.pointer (some ⟨x1,0,none⟩)]) rfl ((ahS hw h8 cT hL mr (Mj.resolve_right (by decide)) cB mS (by simp only[j6]at hK;omega)).mono ?_));rintro q w9⟨rfl,h9⟩;refine⟨fun h=>absurd (by simp) h,?_⟩;refine bm ?_;refine au ?_;refine ay func24 rfl (.inr ⟨_,z7,rfl,dK.late kP ?_⟩);exact h9
  ·refine tk 0 ?_;refine tk 1 ?_;refine bD 2 _ rfl (fun w=>bJ (b:=g) (q:=0) (sz:=4) (len:=8) 6 rfl (by decide) w) ?_;refine tk 3 ?_;refine aI 4 (sk (td 6) x1) rfl (fun w9 aq=>aB rfl (((aN.tr aq).af hg (by simp)).cell rfl)) hS ?_;refine aI 5 nv rfl (fun w9 aq=>aB rfl ((((aD.tr aN).tr aq).af yA (by simp)).cell rfl)) hS ?_;refine a8 6 rfl (aV (fst:=[]) (cap:=[.pointer (some ⟨x1,0,none⟩)]) rfl ((ahT hw h8 cT hL mr (Mj.resolve_right (by decide)) cB mS (by simp only[j6]at hK;omega) Em).mono ?_));rintro q w9⟨rfl,h9⟩;refine⟨fun h=>absurd (by simp) h,?_⟩;refine bm ?_;refine au ?_;refine ay func24 rfl (.inr ⟨_,z7,rfl,dK.late kP ?_⟩);exact h9
  ·refine tk 0 ?_;refine tk 1 ?_;refine bD 2 _ rfl (fun w=>bJ (b:=g) (q:=0) (sz:=4) (len:=8) 7 rfl (by decide) w) ?_;refine tk 3 ?_;refine aI 4 (sk (td 7) x1) rfl (fun w9 aq=>aB rfl (((aN.tr aq).af hg (by simp)).cell rfl)) hS ?_;refine aI 5 nv rfl (fun w9 aq=>aB rfl ((((aD.tr aN).tr aq).af yA (by simp)).cell rfl)) hS ?_;refine a8 6 rfl (aV (fst:=[]) (cap:=[.pointer (some ⟨x1,0,none⟩)]) rfl ((ahU hw h8 cT hL mr (Mj.resolve_right (by decide)) cB Li.1 nv).mono ?_));rintro q w9⟨rfl,h9⟩;refine⟨fun h=>absurd (by simp) h,?_⟩;refine bm ?_;refine au ?_;refine ay func24 rfl (.inr ⟨_,z7,rfl,dK.late kP ?_⟩);exact h9
theorem ajS(l:List UInt8):Lib.hasPrefix l [124]=decide (l.head?=some 124)∧(l.head?=some 124→Lib.trimPrefix l [124]=l.drop 1):=by
 cases l with
 |nil=>exact⟨rfl,fun h=>by cases h⟩
 | cons x r=>
  by_cases hx:x=124
  ·subst hx;exact⟨by simp[Lib.hasPrefix,List.isPrefixOf],fun _=>by simp[Lib.trimPrefix,Lib.hasPrefix,List.isPrefixOf]⟩
  ·exact⟨by simp[Lib.hasPrefix,List.isPrefixOf,hx,Ne.symm hx],fun h=>absurd (by simpa using h) hx⟩
theorem JL(l:List UInt8):kE prog 22 1 [(0,.string (str l))]=some (TS,[Value.string (str l)].toArray):=by kernel_rfl
theorem ahX(l:List UInt8)(hw:Lw w00)(h:Ck w00 w c d fw fd L s)(cT:j7 s)(hL:L.length≤700000000000)(pS:fD s.bI≤100000)(iY:s.inp.length≤100000)(mr:s.cnt≤300000)(hl:l.length≤100000):aC prog 13 [.pointer (some ⟨c,0,none⟩),.string (str l)] w fun r w'=>r=.tuple #[]∧dK w00 w w' c d fw fd (L++(jD s l).2) (jD s l).1:=by
 obtain⟨l8,gT⟩:=ajS l;refine aG 49 func13 ?_;refine oC (ae4 l w) ?_;rintro q w1⟨rfl,rfl⟩;rw[l8];by_cases qX:l.head?=some 124
 ·rw[decide_eq_true qX,gT qX];have e:jD s l=({s with bI:=s.bI++[l.drop 1]},[]):=by unfold jD;rw[if_pos qX]
  rw[e,List.append_nil];obtain⟨tv,iv,lv,fl,hD,ky⟩:=h.dk;obtain⟨ta,tc,htv⟩:=hD.tx.form;have xi:(l.drop 1).length≤100000:=by simp;omega
  have ox:=F6 s.bI;refine au ?_;refine bC (fun w'=>w'.cell? ⟨c,0,none⟩=some (.pointer (some ⟨d,0,none⟩))∧ak w' d [tv,iv,lv] TD) [17] bE ?_;have bz:ae [] w1 w1.drew:=(ae.refl _ _).drew;generalize w1.drew=w2 at*;have h2:=h.aA bz;have H_:=hD.keep bz fun _ _=>by simp
  have hS:w2.cell? ⟨c,0,none⟩=some (.pointer (some ⟨d,0,none⟩))∧ak w2 d [tv,iv,lv] TD:=⟨h2.ct.rW.1,H_.bk⟩;refine tk 0 ?_;refine tk 1 ?_;refine tk 2 ?_;refine aI 3 (.pointer (some ⟨d,0,none⟩)) rfl (fun w9 aq=>aB rfl aq.1) hS ?_;refine tk 4 ?_;refine tk 5 ?_;refine tk 6 ?_;refine aI 7 (.pointer (some ⟨d,0,none⟩)) rfl (fun w9 aq=>aB rfl aq.1) hS ?_;refine tk 8 ?_;refine tk 9 ?_;refine aI 10 tv rfl (fun w9 aq=>aB rfl (aq.2.cell rfl)) hS ?_;refine tk 11 ?_;refine dC 12 (Vu (l.drop 1) (by omega) w2) ?_;rintro q w3⟨rfl,aw⟩;have h3:=h2.aA aw;have y5:=H_.keep aw fun _ _=>by simp
  refine⟨fun _=>⟨h3.ct.rW.1,y5.bk⟩,?_⟩;refine a8 13 rfl (eE _ _ rfl rfl (JL (l.drop 1)) ?_);intro w4 g hg cz ax a_;have h4:=h3.aA ax;have E2:=y5.keep ax fun _ _=>by simp
  refine⟨fun _=>⟨h4.ct.rW.1,E2.bk⟩,?_⟩;refine a8 14 rfl (ja w00.heap.size TS 1 16 (strs s.bI) [.string (str (l.drop 1))] rfl rfl rfl (by decide+kernel) E2.tx (a_.range rfl) rfl (lg rfl) (by decide) (by unfold maxLen;omega) (by omega) h4.k0.size ?_);intro g5 u7 w5 qh G7;have xD:ae (aW tv) w4 w5:=by
   rcases G7 with⟨h1,_,h3⟩|⟨_,h2,_⟩
   ·exact h3.mono fun k hk=>.inl (by rw[List.mem_singleton.1 hk];exact iM.2 h1)
   ·exact h2.bG
  have fW:∀k∈aW (.slice (some ⟨g5,0,none⟩) (s.bI.length+1) u7),k∈aW tv∨w4.heap.size≤k:=fun k hk=>by
   simp only[aW,Value.ownBlock,Option.toList_some,List.mem_singleton]at hk;subst hk;rcases G7 with⟨h1,_⟩|⟨h1,_⟩
   ·exact .inl (iM.2 h1)
   ·exact .inr (by omega)
  have mA:strs s.bI++[.string (str (l.drop 1))]=strs (s.bI++[l.drop 1]):=by simp[strs]
  have lZ:s.bI.length+1=(s.bI++[l.drop 1]).length:=by simp
  rw[mA]at qh;have Pb:Own w5 w00.heap.size TS 1 (.slice (some ⟨g5,0,none⟩) (s.bI.length+1) u7) (s.bI++[l.drop 1]).length (strs (s.bI++[l.drop 1])):=by
   rw[←lZ];exact qh
  have pT:ak w5 d [tv,iv,lv] TD:=xD.af E2.bk fun hm=>by
   obtain⟨X,hX⟩:=mj E2.tx d hm;exact ak.ne E2.bk hX G4 rfl
  have Ic:w5.cell? ⟨c,0,none⟩=some (.pointer (some ⟨d,0,none⟩)):=(h4.ct.keep xD fun k hk hm=>h4.dj k hk (by rw[ky];exact eX.2 (.inr (.inl hm)))).rW.1;refine⟨fun _=>⟨Ic,pT⟩,?_⟩;refine tk 15 ?_;refine tk 16 ?_;refine a8 17 rfl (aH [.slice (some ⟨g5,0,none⟩) (s.bI.length+1) u7] rfl FU pT (by simp) (lg rfl) ?_);intro w6 iI aD CK;have Qt:ak w6 d [.slice (some ⟨g5,0,none⟩) (s.bI.length+1) u7,iv,lv] TD:=CK;obtain⟨hD6,y6⟩:=E2.ug xD Pb fW aD Qt;rw[←ky]at y6;refine⟨fun h=>absurd (by simp) h,?_⟩;refine bm ?_;exact df func13 (.inr (.inl ⟨rfl,rfl⟩)) ⟨rfl,dK.late ((bz.tr aw).tr ax) (h4.turns ⟨_,_,_,_,hD6,rfl⟩ y6)⟩
 rw[decide_eq_false qX];have e:jD s l=qi s (kh l):=by unfold jD;rw[if_neg qX]
 rw[e];refine oC (ae5 l (by omega) w1) ?_;rintro wv w2⟨y4,qj,an⟩;obtain⟨Qu,Qv⟩:=FK l [];have GA:(kh l).length≤100000:=by have:(kh l).length≤0+l.length:=Qu;omega
 have GB:∀x∈kh l,x.length≤100000:=fun x hx=>by have:x.length≤0+l.length:=Qv x hx;omega
 have h2:=h.aA an;obtain⟨wa,wc,rfl,hwc⟩:=y4.form;refine au ?_;refine bC (fun w'=>ae [] w2 w') [10] bE ?_;have hS:ae [] w2 w2.drew:=(ae.refl _ _).drew;generalize w2.drew=w3 at*;have bn:=an.tr hS;have h3:=h.aA bn;cases qA:kh l with
 |nil=>
  refine tk 0 ?_;refine tk 1 ?_;refine yO 2 ?_;refine tk 3 ?_;refine eW 4 ?_;refine eW 5 ?_;refine eW 6 ?_;refine eW 7 ?_;refine eW 8 ?_;refine eW 9 ?_;refine eW 10 ?_;refine eW 11 ?_;refine tk 12 ?_;refine bm ?_;refine au ?_;refine bK func13 rfl ⟨rfl,dK.late bn ?_⟩;simpa[qi]using h3.here
 | cons wd r=>
  rw[qA]at y4 GA GB;obtain⟨b,q,cap,e1,kZ,fB⟩:=y4.at (i:=0) (x:=wd) rfl;injection e1 with e1 _ e3;subst e1 e3;simp only[List.length_cons]at y4 GA⊢;refine tk 0 ?_;refine tk 1 ?_;refine yN 2 ?_;refine tk 3 ?_;refine tk 4 ?_;refine tk 5 ?_;refine bD 6 _ rfl (fun w=>bJ (b:=b) (q:=q) (sz:=1) (len:=r.length+1) 0 rfl (by omega) w) ?_;refine aI 7 (.string (str wd)) rfl (fun w9 aq=>aB rfl (tQ aq fB)) hS ?_;refine tk 8 ?_;refine bD 9 _ rfl (fun w=>Oj (b:=b) (q:=q) (sz:=1) (len:=r.length+1) (cap:=wc) hT rfl rfl rfl rfl rfl (by omega) w) ?_;have xp:gz w3 (.slice (if wc=1 then some ⟨b,q,none⟩else some ⟨b,q+1,none⟩) (r.length+1-1) (wc-1)) r:=gz.last (l:=wd::r) (b:=b) (q:=q) (cap:=wc) (y4.aA hS) (k:=1) (by simp) (ad:=if wc=1 then some ⟨b,q,none⟩else some ⟨b,q+1,none⟩) (fun h=>by rw[if_neg (by omega)]);refine dC 10 (ahW wd hw h3 cT hL pS iY mr xp (by omega) (fun x hx=>by have:=GB x (List.mem_cons_of_mem _ hx);omega)) ?_;rintro q4 w4 (⟨ho,rfl,ax⟩|⟨y,ho,rfl,h4⟩)
  ·refine⟨fun h=>absurd (by simp) h,?_⟩;refine tk 11 ?_;refine tk 12 ?_;refine bm ?_;have ew:qi s (wd::r)=(s,eN sO []):=by
    simp only[qi];cases hn:ly r with
    |none=>rfl
    |some n=>
     rw[hn]at ho;have:gf s wd n=none:=ho;simp only[this];rfl
   rw[ew];have h4:=h3.aA ax;refine oC (x8 sO (by decide) (by decide) hw.lt h4.k0 h4.ct (XP _) (XQ _) Vs (by simp only[List.length_nil];omega)) ?_;rintro q5 w5⟨rfl,CG,h5,pR⟩;refine au ?_;exact bK func13 rfl ⟨rfl,dK.late (bn.tr ax) (h4.wN h5 pR)⟩
  ·refine⟨fun h=>absurd (by simp) h,?_⟩;refine tk 11 ?_;refine tk 12 ?_;refine bm ?_;have ew:qi s (wd::r)=y:=by
    simp only[qi];cases hn:ly r with
    |none=>rw[hn]at ho;cases ho
    |some n=>
     rw[hn]at ho;have:gf s wd n=some y:=ho;simp only[this];rfl
   rw[ew];refine au ?_;exact bK func13 rfl ⟨rfl,dK.late bn h4⟩
end
theorem ajT{d:Ds}(h:j7 d)(hc:d.cnt≤300000):(ve d).2.length≤7000000:=by
 unfold ve;split
 ·simp
 ·rename_i vs body inp x hx
  obtain⟨h1,h2,_,h4,g,h5,h6⟩:=h.lf _ _ _ _ hx;have hz:jH vs body inp ⟨x,[],[],0⟩ d.cnt:=⟨⟨by simp,by simp⟩,g,h5,h6⟩;obtain⟨b1,b2,b3⟩:=hz.aF h1 (tP h1).1;obtain⟨r1,r2⟩:=h6.rg h2 h4;have aZ:=hz.stat h1 (tP h1).1;simp only at b1 b2 b3 aZ;have:=WH (Oi aZ b3) r2 r1 (by omega) b2;simp only;omega
theorem Ol{d:Ds}(s:Sp):(gE d s).2.length≤7000000:=by
 unfold gE;split
 ·simp
 ·split
  ·rename_i vs body inp x _ hf
   have hle:=J3 (vs:=vs) (body:=body) (inp:=inp) hf x;have vH:=Gv s;have:=rL (w:=yy) (by decide) (oI (n:=(((lh (bB vs body) inp s x).2:Nat):Int)) (by unfold dm;omega));simp only[List.length_cons,List.length_nil]at this⊢;omega
  ·have:=rL (w:=e_) (by decide) (oI (A5 s));simp only[List.length_cons,List.length_nil]at this⊢;omega
theorem Vv{d:Ds}{f:List aJ→List ST→Ds×List UInt8}(h:∀x,j1 (Lib.join d.bI [10])=.ok x→(f x.1 x.2).2.length≤7000000):(jL d f).2.length≤7000000:=by
 unfold jL;split
 ·rename_i e he
  obtain⟨_,e2,e3⟩:=Of _ e he;have:=rL (w:=e_) (by decide) (A9 (oI e2) (oI e3));simp only[List.cons_append,List.nil_append,List.length_cons,List.length_nil]at this⊢;omega
 ·rename_i x hx
  exact h x hx
theorem agu{d:Ds}(h:j7 d)(hc:d.cnt≤300000){w:List UInt8}{n:List Int}:∀x,gf d w n=some x→x.2.length≤7000000:=by
 intro x hx;unfold gf at hx
 repeat' split at hx
 all_goals first
  |(cases hx;done)
  |(simp only[Option.some.injEq]at hx;subst hx)
 ·simp
 ·simp
 ·refine Vv fun x hx=>?_;unfold qg;split
  ·show(eN Az []).length≤7000000;decide
  ·have:=rL (w:=e_) (by decide) (oI (n:=qW x.1 x.2 d.inp) (by rw[Ju (zp hx).1];unfold dm;split<;>omega));simp only[List.length_cons,List.length_nil]at this⊢;omega
 ·refine Vv fun x hx=>?_;obtain⟨g1,g2⟩:=zp hx;obtain⟨ro,rc,r1,r2,r3⟩:=OI g1 g2 h.ir (n.getD 0 0);obtain⟨b1,b2⟩:=Oh (vs:=x.1) (tP g1).1 d.inp (n.getD 0 0);unfold tY wO;simp only;split
  ·have t1:=rL (w:=uW) (by decide) (oI r2);have t2:=WH r1 ro rc (by omega) b2;simp only[List.length_append,List.length_cons,List.length_nil]at t1⊢;omega
  ·have:=rL (w:=e_) (by decide) (oI r3);simp only[List.length_cons,List.length_nil]at this;omega
 ·exact Ol _
 ·exact Ol _
 ·exact Ol _
 ·exact ajT h hc
theorem ahY{d:Ds}(h:j7 d)(hc:d.cnt≤300000)(l:List UInt8):(jD d l).2.length≤7000000:=by
 have hwh:(eN sO []).length≤7000000:=by decide
 unfold jD;split
 ·simp
 ·unfold qi;split
  ·simp
  ·split
   ·exact hwh
   ·rename_i n _
    cases ho:gf d _ n with
    |none=>exact hwh
    |some x=>exact agu h hc x ho
theorem NX:∀{ls:List (List UInt8)} {d:Ds},kA d ls→(gq d ls).2.length≤7000000*ls.length
 |[],d,_=>by simp[gq]
 |l::r,d,h=>by
  have h1:=ahY h.ok (by have:=h.cnt;omega) l;have h2:=NX h.cons;rw[show l::r=[l]++r from rfl,Nt];have e:gq d [l]=((jD d l).1,(jD d l).2):=by simp[gq]
  rw[e];simp only[List.length_append,List.length_cons,List.length_nil];omega
theorem agv(l:List UInt8)(w:World):aC prog 18 [.string (str l)] w fun r w'=>r=.bool (rT l)∧w'=w:=by
 refine aG 5 func18 ?_;refine oC (ac9 l w) ?_;rintro r w1⟨rfl,rfl⟩;refine au ?_;exact ay func18 rfl ⟨rfl,rfl⟩
def Qw(o:Option Nat):Int:=match o with
 |some i=>(i:Nat)
 |none=>-1
theorem ae6{v:Value}{ls:List (List UInt8)}{w:World}(h:gz w v ls)(hl:ls.length≤1000000):aC prog 17 [v,.func (.func 18) #[] #[]] w fun r w'=>r=.int .i64 (Qw (ls.findIdx? rT))∧w'=w:=by
 obtain⟨a,cap,rfl,_⟩:=h.form;refine aG 19 func17 ?_;refine au ?_;refine cP (fun m σ w'=>∃i:Nat,i≤ls.length∧m=ls.length-i∧σ=[(0,.slice a ls.length cap),(1,.func (.func 18) #[] #[]),(7,.int .i64 (ls.length:Nat)),(8,.int .i64 (i:Nat))]∧(∀k (hk:k<ls.length),k<i→rT ls[k]=false)∧w'=w)
  ls.length _ ?_ ⟨0,by omega,by omega,rfl,fun k _ hk=>absurd hk (Nat.not_lt_zero k),rfl⟩ ?_
 ·exact⟨rfl,rfl,rfl,rfl,trivial⟩
 rintro m σ w2 ih⟨i,hi,rfl,rfl,kO,rfl⟩;refine au ?_;by_cases az:i<ls.length
 ·refine ye ?_;refine au ?_;obtain⟨b,q,iF,e1,_,fB⟩:=h.at (List.getElem?_eq_getElem az);injection e1 with e1 _ e3;subst e1 e3;refine ai _ (bJ i rfl az w2) ?_;refine ai _ (aB rfl (by simpa using fB)) ?_;refine oC (agv ls[i] w2) ?_;rintro v3 w3⟨rfl,rfl⟩;cases hb:rT ls[i]with
  |true=>
   refine au ?_;have:ls.findIdx? rT=some i:=List.findIdx?_eq_some_iff_getElem.2 ⟨az,hb,fun j hj=>by rw[kO j (by omega) hj];decide⟩;rw[this];exact ay func17 rfl ⟨rfl,rfl⟩
  | false=>
   refine nM ((i+1:Nat):Int) ?_;refine au ?_;refine bj ?_ (ih (ls.length-(i+1)) [(0,.slice (some ⟨b,q,none⟩) ls.length cap),(1,.func (.func 18) #[] #[]),(7,.int .i64 (ls.length:Nat)),(8,.int .i64 ((i+1:Nat):Int))] w3 (by omega) ⟨i+1,by omega,rfl,rfl,fun k hk Ah=>?_,rfl⟩)
   ·exact⟨rfl,rfl,rfl,rfl,trivial⟩
   ·rcases Nat.lt_or_ge k i with h|h
    ·exact kO k hk h
    ·have:k=i:=by omega
     subst this;exact hb
 ·refine aL ?_;refine au ?_;have:ls.findIdx? rT=none:=List.findIdx?_eq_none_iff.2 fun x hx=>by
   obtain⟨k,hk,rfl⟩:=List.getElem_of_mem hx;exact kO k hk (by omega)
  rw[this];exact ay func17 rfl ⟨rfl,rfl⟩
def gG(f:Int×Int):List Value:=[.int .i64 f.1,.int .i64 f.2]
theorem WI(a b:Int):prog.built 34 [(0,.int .i64 a),(1,.int .i64 b)]=some (gG (a,b)).toArray:=by kernel_rfl
theorem Om:prog.built 34 []=some (gG (0,0)).toArray:=by kernel_rfl
theorem ae7{v:Value}{ls:List (List UInt8)}{w:World}(h:gz w v ls)(hl:ls.length≤1000000):aC prog 12 [v] w fun r w'=>r=.agg (gG (i_ ls)).toArray∧ae [] w w':=by
 obtain⟨a,cap,rfl,hc⟩:=h.form;refine aG 15 func12 ?_;refine au ?_;refine aj (bO _ rfl o9 ?_);intro w1 x2 gi bt ah aM;refine au ?_;by_cases vf:150<ls.length
 ·refine ye ?_;refine au ?_;refine ai _ (bL _ rfl rfl (WI 3 (-1)) w1) ?_;refine aj (aH (gG (3,-1)) rfl gm aM (by simp[gG]) (gp _ _) ?_);intro w2 cE an aX;rw[bs (by rfl)]at aX;refine au ?_;have e:i_ ls=(3,-1):=by unfold i_;rw[if_pos vf]
  rw[e];exact df func12 (.inr (.inr (.inl ⟨_,_,_,rfl,rfl,cV hT aX rfl⟩))) ⟨rfl,ah.aO an (by omega)⟩
 ·refine aL ?_;refine oC (ae6 (h.aA ah) hl) ?_;rintro r w2⟨rfl,rfl⟩;refine au ?_;cases hf:ls.findIdx? rT with
  |some i=>
   have e:i_ ls=(14,((i:Nat):Int)):=by unfold i_;rw[if_neg vf,hf]
   rw[e];have ei:Qw (some i)=(i:Nat):=rfl;refine ye ?_;refine au ?_;refine ai _ (bL _ rfl rfl (WI 14 (i:Nat)) w2) ?_;refine aj (aH (gG (14,(i:Nat))) rfl gm aM (by simp[gG]) (gp _ _) ?_);intro w3 cw aw aQ;rw[bs (by rfl)]at aQ;refine au ?_;exact df func12 (.inr (.inr (.inl ⟨_,_,_,rfl,rfl,cV hT aQ rfl⟩))) ⟨rfl,ah.aO aw (by omega)⟩
  |none=>
   have e:i_ ls=(0,0):=by unfold i_;rw[if_neg vf,hf]
   rw[e];have ei:Qw none=-1:=rfl;refine aL ?_;refine au ?_;refine ai _ (bL _ rfl rfl Om w2) ?_;refine aj (aH (gG (0,0)) rfl gm aM (by simp[gG]) (gp _ _) ?_);intro w3 cw aw aQ;rw[bs (by rfl)]at aQ;refine au ?_;exact df func12 (.inr (.inr (.inl ⟨_,_,_,rfl,rfl,cV hT aQ rfl⟩))) ⟨rfl,ah.aO aw (by omega)⟩
theorem ahZ:prog.built TD []=some [Value.slice none 0 0,.slice none 0 0,.pointer none].toArray:=by kernel_rfl
theorem ah0(d:Nat):prog.built TC [(0,.pointer (some ⟨d,0,none⟩))]=some [Value.pointer (some ⟨d,0,none⟩),.pointer none,.slice none 0 0].toArray:=by kernel_rfl
theorem T2{w00 w:World}(bX:ae [] w00 w):aC prog 7 [] w fun r w'=>∃d,r=.pointer (some ⟨d,0,none⟩)∧qx w00.heap.size w' d [d] xy∧w.heap.size≤d∧ae [] w w':=by
 refine aG 3 func7 ?_;refine au ?_;refine ai _ (bL _ rfl rfl ahZ w) ?_;refine aj (bY [.slice none 0 0,.slice none 0 0,.pointer none] rfl ?_);intro w1 d hd bt ah aM;refine au ?_;exact ay func7 rfl ⟨d,rfl,⟨_,_,_,[],⟨aM,by have:=bX.size;omega,Own.nil _ _ _ _,bl.nil _ _,⟨rfl,rfl⟩,fun k hk=>by cases hk⟩,rfl⟩,by omega,ah⟩
theorem UG{w00 w:World}{d:Nat}{fd:List Nat}{s:Ds}{lv:Value}{ls:List (List UInt8)}(hw:Lw w00)(bX:ae [] w00 w)(h:qx w00.heap.size w d fd s)(lZ:gz w lv ls)(CL:NB lv fd)(yB:kA s ls):aC prog 8 [.pointer (some ⟨d,0,none⟩),lv] w fun r w'=>r=.tuple #[.string (str (xE s ls).2),.agg (gG (i_ ls)).toArray]∧∃sq,qx w00.heap.size w' d sq (xE s ls).1∧Tn fd sq w w':=by
 obtain⟨la,lc,rfl,E3⟩:=lZ.form;have CM:ls.length≤50000:=Nat.le_trans (F6 ls) (by have:=yB.bI;omega);refine aG 35 func8 ?_;refine au ?_;refine aj (bO _ rfl o9 ?_);intro w1 x5 gw bt ah aM;refine oC (ae7 (lZ.aA ah) (by omega)) ?_;rintro r w2⟨rfl,an⟩;obtain⟨⟨fa,fb⟩,hf⟩:∃f,f=i_ ls:=⟨_,rfl⟩;rw[←hf];have Lj:xE s ls=if fa=0 then gq s ls else(s,[]):=by unfold xE;rw[←hf]
 refine aj (bO _ rfl o9 ?_);intro w3 x6 im cw aw aQ;refine aj (aH (gG (fa,fb)) rfl gm aQ (by simp[gG]) (gp _ _) ?_);intro w4 cz ax a_;rw[bs (by rfl)]at a_;have br:=ah.tr an;have dJ:ae [] w w4:=(br.tr aw).aO ax (by have:=br.size;omega);have gP:ae [] w1 w4:=(an.tr aw).aO ax (by have:=an.size;omega);have cr:=gP.af aM (by simp);have z14:=gP.size;have R9:=br.size;refine lB a_ ?_;by_cases AD:fa=0
 rotate_left
 ·rw[if_neg AD]at Lj;rw[Lj];refine ye ?_;refine au ?_;refine bC (fun w'=>True∧ak w' x6 (gG (fa,fb)) 34) [2] bE ?_;have bz:ae [] w4 w4.drew:=(ae.refl _ _).drew;generalize w4.drew=w5 at*;have hS:True∧ak w5 x6 (gG (fa,fb)) 34:=⟨trivial,bz.af a_ (by simp)⟩;refine aI 0 (.agg (gG (fa,fb)).toArray) rfl (fun w9 aq=>bF (gG (fa,fb)) rfl (aq.2.range (by rfl))) hS ?_;refine tk 1 ?_;refine a8 2 rfl (aH (gG (fa,fb)) rfl gm (bz.af cr (by simp)) (by simp[gG]) (gp _ _) ?_);intro w6 iI aD dM;rw[bs (by rfl)]at dM;refine⟨fun h=>absurd (by simp) h,?_⟩;refine bm ?_;have fy:ae [] w w6:=(dJ.tr bz).aO aD (by omega);exact xZ func8 rfl rfl rfl (cV hT dM rfl) ⟨rfl,fd,h.aA fy,Tn.bG fy⟩
 rw[if_pos AD]at Lj;rw[Lj];have hf0:fb=0:=by
  unfold i_ at hf;split at hf
  ·cases hf;cases AD
  ·split at hf
   ·cases hf;cases AD
   ·cases hf;rfl
 subst AD hf0;have vf:ls.length≤150:=by
  unfold i_ at hf;split at hf
  ·cases hf
  ·omega
 refine aL ?_;refine au ?_;refine ai _ (bL _ rfl rfl (ah0 d) w4) ?_;refine aj (bY [.pointer (some ⟨d,0,none⟩),.pointer none,.slice none 0 0] rfl ?_);intro w5 c hc iV aE hbc;have cK:=dJ.tr aE;have z04:=dJ.size;have anj:c∉fd:=fun hm=>by have:=(h.lt c hm).2;omega
 have h5:Ck w00 w5 c d [c] fd [] s:=⟨bX.tr cK,⟨_,_,⟨hbc,World.ownsRow_nil _ _ _ _,fun _=>rfl,by have:=bX.size;omega⟩,.inl rfl,rfl⟩,h.aA cK,fun k hk hm=>anj (by rw[←List.mem_singleton.1 hk];exact hm)⟩;have ank:NB (.slice la ls.length lc) ([c]++fd):=fun b q n k he h0 hm=>by
  rcases List.mem_append.1 hm with hm|hm
  ·have e:=List.mem_singleton.1 hm;exact(lZ.nb (fp:=[]) (fp':=[c]) (fun _ _ _ _ _ _ h=>nomatch h) (fun k hk=>.inr (by rw[List.mem_singleton.1 hk];omega))) b q n k he h0 hm
  ·exact CL b q n k he h0 hm
 have Qx:x5∉[c]++fd:=fun hm=>by
  rcases List.mem_append.1 hm with hm|hm
  ·have:=List.mem_singleton.1 hm;have:=cr.lt;omega
  ·have:=(h.lt x5 hm).2;omega
 refine au ?_;refine cP (fun t σ w'=>∃(j:Nat),j≤ls.length∧t=ls.length-j∧σ=[(5,.pointer (some ⟨x5,0,none⟩)),(7,.pointer (some ⟨c,0,none⟩)),(19,.slice la ls.length lc),(20,.int .i64 (ls.length:Nat)),(21,.int .i64 (j:Nat))]∧dK w00 w5 w' c d [c] fd (gq s (ls.take j)).2 (gq s (ls.take j)).1)
  ls.length _ ?_ ⟨0,Nat.zero_le _,rfl,rfl,h5.here⟩ ?_
 ·exact⟨rfl,rfl,rfl,rfl,rfl,trivial⟩
 rintro t σ w6 ih⟨j,hj,rfl,rfl,R4,Ml,h6,aD,R_,CK⟩;have Gw:ls=ls.take j++ls.drop j:=(List.take_append_drop j ls).symm;have yp:kA (gq s (ls.take j)).1 (ls.drop j):=kA.app (by rw[←Gw];exact yB);have arj:(gq s (ls.take j)).2.length≤7000000*150:=by
  have h1:=NX (kA.front (b:=ls.drop j) (by rw[←Gw];exact yB));have h2:(ls.take j).length≤150:=by simp;omega
  exact Nat.le_trans h1 (Nat.mul_le_mul_left _ h2)
 have anl:=(lZ.aA cK).keep aD ank;refine au ?_;by_cases az:j<ls.length
 rotate_left
 ·have uB:ls.take j=ls:=List.take_of_length_le (by omega);rw[uB]at h6;refine aL ?_;refine oC (ac2 h6.ct) ?_;rintro r w7⟨rfl,aN⟩;have anm:=aD.af (aE.af cr (by simp)) Qx;have ann:x5∉R4:=fun hm=>by
   rcases R_ x5 hm with h1|h1
   ·exact Qx (List.mem_append.2 (.inl h1))
   ·have:=(aE.af cr (by simp)).lt;omega
  refine ai _ (bL _ rfl rfl Om w7) ?_;refine au ?_;refine aj (aH (gG (0,0)) rfl gm (aN.af anm ann) (by simp[gG]) (gp _ _) ?_);intro w8 jP aS cB;rw[bs (by rfl)]at cB;refine au ?_;have y7:qx w00.heap.size w7 d Ml (gq s ls).1:=h6.dk.keep aN fun k hk hm=>h6.dj k hm hk;have ano:x5∉Ml:=fun hm=>by
   rcases CK x5 hm with h1|h1
   ·exact Qx (List.mem_append.2 (.inr h1))
   ·have:=(aE.af cr (by simp)).lt;omega
  have Ie:qx w00.heap.size w8 d Ml (gq s ls).1:=y7.keep aS fun k hk hm=>ano (by rw[←List.mem_singleton.1 hm];exact hk);refine xZ func8 rfl rfl rfl (cV hT cB rfl) ⟨rfl,Ml,Ie,?_,fun k hk=>(CK k hk).imp id fun h=>Nat.le_trans cK.size h⟩;have fy:ae fd w w6:=cK.bG.trans aD fun k hk=>(List.mem_append.1 hk).elim (fun h=>.inr (by rw[List.mem_singleton.1 h];omega)) .inl;refine(fy.trans aN fun k hk=>?_).trans aS fun k hk=>.inr (by rw[List.mem_singleton.1 hk];omega);rcases R_ k hk with h1|h1
  ·exact .inr (by rw[List.mem_singleton.1 h1];omega)
  ·exact .inr (Nat.le_trans cK.size h1)
 refine ye ?_;refine au ?_;obtain⟨l,hl⟩:∃l,ls[j]?=some l:=⟨_,List.getElem?_eq_getElem az⟩;have Sa:l∈ls.drop j:=by
  rw[List.drop_eq_getElem_cons az];rw[List.getElem?_eq_getElem az]at hl;cases hl;exact List.mem_cons_self
 have Ll:=yp.bI;have Sb:=OK Sa;obtain⟨b,q,cap,e1,kZ,fB⟩:=anl.at hl;injection e1 with e1 _ e3;subst e1 e3;refine ai _ (bJ j rfl az w6) ?_;refine ai _ (aB rfl (by simpa using fB)) ?_;refine oC (ahX l hw h6 yp.ok (by omega) (by omega) (by have:=yp.inp;omega) (by have:=yp.cnt;omega) (by omega)) ?_;rintro r w7⟨rfl,h7⟩;refine nM ((j+1:Nat):Int) ?_;refine au ?_;refine bj ?_ (ih (ls.length-(j+1)) [(5,.pointer (some ⟨x5,0,none⟩)),(7,.pointer (some ⟨c,0,none⟩)),(19,.slice (some ⟨b,q,none⟩) ls.length lc),(20,.int .i64 (ls.length:Nat)),(21,.int .i64 ((j+1:Nat):Int))] w7 (by omega) ⟨j+1,az,rfl,rfl,?_⟩)
 ·exact⟨rfl,rfl,rfl,rfl,rfl,trivial⟩
 ·rw[List.take_add_one,hl,Option.toList_some,T3];exact dK.on aD R_ CK h7
theorem Kn{w w0:World}{B:Nat}{v:Value}{l:List Int}(h:bl w B v l)(hB:w0.heap.size≤B):Nw w0 v:=fun b q n c e h0=>by
 subst e;rcases h.2 with⟨e,_⟩|⟨g,iF,cur,e,hb,_⟩
 ·cases e
 ·cases e;exact Nat.le_trans hB hb
theorem aeg{F:Nat→Prop}{w:World}{x iv:Value}{vs:List aJ}{body:List ST}{inp:List Int}(fuel:Nat)(h:iN F w x vs body)(hF:In F w)(hi:eS w iv inp)(cX:dq vs body=0)(bw:cu body≤1000)(fF:inp.length≤1000)(hfu:fuel≤3000):aC prog 32 [x,iv,.int .i64 (fuel:Nat)] w fun r w'=>(∃ov cv,r=.tuple #[.agg (cI (qR (nU (nN vs body inp fuel))).code ov cv).toArray,.int .i64 (qR (nU (nN vs body inp fuel))).used]∧eS w' ov (qR (nU (nN vs body inp fuel))).out∧eS w' cv (qR (nU (nN vs body inp fuel))).cells∧Nw w ov∧Nw w cv)∧ae [] w w':=by
 have hh:=h;obtain⟨vv,bv,rfl,hv,hb⟩:=h;obtain⟨av,aY,rfl⟩:=hv.form;obtain⟨ab,bh,rfl⟩:=hb.form;have Ar:=hi;obtain⟨ia,gN,rfl,_⟩:=hi;obtain⟨c,hc,u3,hP⟩:=zv cX bw;have E7:(aT vs).toNat=c:=by omega
 refine aG 25 func32 ?_;refine au ?_;refine aj (bY [.slice av vs.length aY,.slice ab body.length bh] rfl ?_);intro w1 p su bt ah l8;refine aj (bO _ rfl sG ?_);intro w2 y hy0 cE an AH;have br:=ah.tr an;have gT:=an.af l8 (by simp);refine au ?_;refine ai _ (bF [.slice av vs.length aY,.slice ab body.length bh] rfl (gT.range (by rfl))) ?_;refine oC (Tv (hh.keep br hF.stays) (hF.keep br) (Ar.aA br) cX bw hc u3) ?_;rintro r w3⟨b,cb,rw0,rfl,y_⟩;have hW:bB vs body=cN vs body 0++[bA]:=rfl;refine au ?_;refine cP (fun t σ w'=>∃(n:Nat) (kk:Md) (rw:gh),n≤fuel∧t=fuel-n∧σ=[(2,.int .i64 (fuel:Nat)),(6,.pointer (some ⟨y,0,none⟩)),(8,.pointer (some ⟨b,0,none⟩)),(9,.int .i64 (n:Nat))]∧Bw w2 w' b (bB vs body) inp cb (.slice ia inp.length gN) rw (pu (bB vs body) inp c n).1 kk (pu (bB vs body) inp c n).2∧∀k<n,(pu (bB vs body) inp c k).1.state=0) fuel _ ?_ ⟨0,_,rw0,by omega,by omega,rfl,y_,fun k hk=>by omega⟩ ?_
 ·exact⟨rfl,rfl,rfl,rfl,trivial⟩
 clear y_;rintro t σ w4 ih⟨n,kk,rw1,hn,rfl,rfl,tG,G_⟩;obtain⟨b1,b2,b3⟩:=DB (W:=bB vs body) (inp:=inp) (c:=c) n;have uZ:=Bz (inp:=inp) hP.rk hP.jmp n;rw[←hW]at uZ;refine au ?_;by_cases az:n<fuel
 ·refine ye ?_;refine oC (NL (Q:=cN vs body 0) hP tG uZ (by omega) (by omega) (by omega) false) ?_;rintro r w5⟨jW,rw2,vP,_,_⟩;have jW:r=.bool (decide ((pu (bB vs body) inp c n).1.state=0)):=jW;subst jW;have vP:Bw w2 w5 b (bB vs body) inp cb (.slice ia inp.length gN) rw2 (eD (bB vs body) inp (pu (bB vs body) inp c n).1 (pu (bB vs body) inp c n).2).1 kk (eD (bB vs body) inp (pu (bB vs body) inp c n).1 (pu (bB vs body) inp c n).2).2:=vP;by_cases kb:(pu (bB vs body) inp c n).1.state=0
  ·rw[decide_eq_true kb];refine nM ((n+1:Nat):Int) ?_;refine au ?_;refine bj ?_ (ih (fuel-(n+1)) [(2,.int .i64 (fuel:Nat)),(6,.pointer (some ⟨y,0,none⟩)),(8,.pointer (some ⟨b,0,none⟩)),(9,.int .i64 ((n+1:Nat):Int))] w5 (by omega) ⟨n+1,kk,rw2,by omega,rfl,rfl,?_,?_⟩)
   ·exact⟨rfl,rfl,rfl,rfl,trivial⟩
   ·rw[yd];exact vP
   ·intro k hk;by_cases Io:k=n
    ·rw[Io];exact kb
    ·exact G_ k (by omega)
  ·rw[decide_eq_false kb];have hid:eD (bB vs body) inp (pu (bB vs body) inp c n).1 (pu (bB vs body) inp c n).2=pu (bB vs body) inp c n:=by
    unfold eD;rw[if_neg kb]
   have hX:=YT cX inp hn G_ (.inr kb);have Sg:nN vs body inp fuel=uE vs inp fuel body (qC c):=by unfold nN;rw[E7]
   have hR:=hX;rw[←Sg]at hR;rw[hid]at vP;refine oC (N8 vP (by omega)) ?_;rintro r wn⟨rfl,Io⟩;have lM:=vP.aA Io;obtain⟨oa,oc,tw⟩:=lM.ro.form;obtain⟨ca,cc,pN⟩:=lM.rc.form;have Ip:=lM.kp.af AH (by simp);rw[tw,pN];refine au ?_;refine aj (aH (cI _ (.slice oa _ oc) (.slice ca _ cc)) rfl rO Ip (by simp[cI]) (rN _ _ _ _ _ _ _) ?_);intro we hse CQ lq;rw[bs (by rfl)]at lq;have Sh:ae [] w we:=(br.tr lM.kp).aO CQ (by have:=ah.size;omega);have Mw:=AH.lt;have o2:=(lM.ro.keep CQ fun k hk hm=>by have:=(lM.ro.lt k hk).1;have:=List.mem_singleton.1 hm;omega).nQ;have E3:=(lM.rc.keep CQ fun k hk hm=>by have:=(lM.rc.lt k hk).1;have:=List.mem_singleton.1 hm;omega).nQ;have Iq:=Kn lM.ro br.size;have Ir:=Kn lM.rc br.size;rw[tw]at o2 Iq;rw[pN]at E3 Ir;refine au ?_;refine df func32 (.inr (.inr (.inr (.inl ⟨_,_,_,_,_,_,rfl,rfl,cV hT lq rfl,rfl,rfl⟩)))) ⟨⟨.slice oa (pu (bB vs body) inp c n).2.1.length oc,.slice ca (pu (bB vs body) inp c n).1.cells.length cc,?_,?_,?_,Iq,Ir⟩,Sh⟩
   ·rw[hR];show _=Value.tuple #[.agg (cI (((if(pu (bB vs body) inp c n).1.state=0 then 13 else if(pu (bB vs body) inp c n).1.state=1 then 0 else(pu (bB vs body) inp c n).1.state-2:Nat)):Int) _ _).toArray,_];rw[←NW _ _ (yl (W:=bB vs body) (inp:=inp) (c:=c) n).2];rfl
   ·rw[hR];exact o2
   ·rw[hR];exact E3
 ·refine aL ?_;have hX:=YT cX inp hn G_ (.inl (by omega));have Sg:nN vs body inp fuel=uE vs inp fuel body (qC c):=by unfold nN;rw[E7]
  have hR:=hX;rw[←Sg]at hR;refine oC (N8 tG (by omega)) ?_;rintro r wn⟨rfl,Io⟩;have lM:=tG.aA Io;obtain⟨oa,oc,tw⟩:=lM.ro.form;obtain⟨ca,cc,pN⟩:=lM.rc.form;have Ip:=lM.kp.af AH (by simp);rw[tw,pN];refine au ?_;refine aj (aH (cI _ (.slice oa _ oc) (.slice ca _ cc)) rfl rO Ip (by simp[cI]) (rN _ _ _ _ _ _ _) ?_);intro we hse CQ lq;rw[bs (by rfl)]at lq;have Sh:ae [] w we:=(br.tr lM.kp).aO CQ (by have:=ah.size;omega);have Mw:=AH.lt;have o2:=(lM.ro.keep CQ fun k hk hm=>by have:=(lM.ro.lt k hk).1;have:=List.mem_singleton.1 hm;omega).nQ;have E3:=(lM.rc.keep CQ fun k hk hm=>by have:=(lM.rc.lt k hk).1;have:=List.mem_singleton.1 hm;omega).nQ;have Iq:=Kn lM.ro br.size;have Ir:=Kn lM.rc br.size;rw[tw]at o2 Iq;rw[pN]at E3 Ir;refine au ?_;refine df func32 (.inr (.inr (.inr (.inl ⟨_,_,_,_,_,_,rfl,rfl,cV hT lq rfl,rfl,rfl⟩)))) ⟨⟨.slice oa (pu (bB vs body) inp c n).2.1.length oc,.slice ca (pu (bB vs body) inp c n).1.cells.length cc,?_,?_,?_,Iq,Ir⟩,Sh⟩
  ·rw[hR];show _=Value.tuple #[.agg (cI (((if(pu (bB vs body) inp c n).1.state=0 then 13 else if(pu (bB vs body) inp c n).1.state=1 then 0 else(pu (bB vs body) inp c n).1.state-2:Nat)):Int) _ _).toArray,_];rw[←NW _ _ (yl (W:=bB vs body) (inp:=inp) (c:=c) n).2];rfl
  ·rw[hR];exact o2
  ·rw[hR];exact E3
section
variable{w0 w w1 w2:World}{b:Nat}{W:List Is}{inp:List Int}{cv iv:Value}{r:gh}{m k:Md}{p:Pr}
theorem Bw.an3(h:Bw w0 w b W inp cv iv r m k p){s' c':Value}(ah:ae [] w w1)(hs:bl w1 w.heap.size s' k.stack)(hc:bl w1 w.heap.size c' k.cells)(HK:jI s' c')(hk:ae [b] w1 w2)(hb:ak w2 b (fg cv iv k k p {r with s:=s',c:=c'}) xh):eZ w0 w w2 b W inp cv iv r {r with s:=s',c:=c'} k k p:=by
 have h1:=h.aA ah;have low:∀{v:Value} {l:List Int},bl w1 w.heap.size v l→bl w2 w0.heap.size v l:=fun{v l} hv=>by
  have:=hv.keep hk (hv.ne h1.bk lA);refine⟨this.1,?_⟩;rcases this.2 with h0|⟨g,cap,cur,e1,e2,e3⟩
  ·exact .inl h0
  ·exact .inr ⟨g,cap,cur,e1,Nat.le_trans h.kp.size e2,e3⟩
 have new:∀{u v:Value} {l l':List Int},bl w w0.heap.size u l→bl w1 w.heap.size v l'→jI v u:=fun{u v l l'} hu hv x hx hm=>by
  have:=(hu.lt x hm).2;have:=(hv.lt x hx).1;omega
 refine⟨⟨(h.kp.tr ah).aO hk h.ge,h.ge,hb,?_,h.inp,low hs,low hc,h1.rh.keep hk (h1.rh.ne h1.bk lA),h1.ri.keep hk (h1.ri.ne h1.bk lA),h1.ro.keep hk (h1.ro.ne h1.bk lA),⟨HK,new h.rh hs,new h.ri hs,new h.ro hs,new h.rh hc,new h.ri hc,new h.ro hc,h.ap.P5,h.ap.Rr,h.ap.Rw⟩⟩,?_,?_⟩
 ·refine h1.cd.kG hk fun x hx hm=>?_;obtain⟨L',mB⟩:=h1.cd.af x hx;rw[List.mem_singleton.1 hm]at mB;exact ak.ne h1.bk mB GR rfl
 ·exact ah.bG.trans hk fun x hx=>.inl (by rw[List.mem_singleton.1 hx];simp[dz])
 ·intro x hx;simp only[dz,List.mem_cons,List.mem_append]at hx⊢;rcases hx with h1|h1|h1|h1|h1
  ·exact .inl (.inl h1)
  ·exact .inl (.inr (.inl h1))
  ·exact .inr (Nat.le_trans (Nat.le_refl _) (hs.lt x h1).1)
  ·exact .inr (Nat.le_trans (Nat.le_refl _) (hc.lt x h1).1)
  ·exact .inl (.inr (.inr (.inr (.inr h1))))
theorem FY(h:Bw w0 w b W inp cv iv r m k p)(hl:k.stack.length≤1000∧k.cells.length≤1000):aC prog 90 [.pointer (some ⟨b,0,none⟩)] w fun v w'=>v=.tuple #[]∧mW w0 w w' b W inp cv iv r k k p:=by
 obtain⟨sv,cl,ks,kc,ov⟩:=r;refine aG 10 func90 ?_;refine au ?_;refine ai (.agg (mC k ks kc).toArray) (bF (mC k ks kc) rfl (h.bk.range (by rfl))) ?_;refine oC (MZ h.rh.nQ h.ri.nQ hl) ?_;rintro v w1⟨s',c',rfl,bt,eO,HK,ah⟩;obtain⟨sa,KZ,rfl⟩:=bt.form;obtain⟨ca,cA,rfl⟩:=eO.form;refine au ?_;refine aj (aH (mC k (.slice sa k.stack.length KZ) (.slice ca k.cells.length cA)) rfl JY (h.aA ah).bk (by simp[fg,mC]) (Kh rfl rfl) ?_);intro w2 cE an aX;refine au ?_;exact bK func90 rfl ⟨rfl,_,h.an3 ah bt eO HK an aX⟩
end
def rA(W:List Is)(inp:List Int)(kd:Int)(keep:Bool)(n:Nat)(x:Lf):Lf×Nat:=if kd=3 then sP W inp keep n x else ti W inp n x
theorem aim(W:List Is)(inp:List Int)(kd:Int)(keep:Bool)(n:Nat)(x:Lf):rA W inp kd keep (n+1) x=if kd=3∧eG W x.m=true then(BQ (iP W inp keep x),1)else if x.m.state=0 then((rA W inp kd keep n (iP W inp true x)).1,(rA W inp kd keep n (iP W inp true x)).2+1)else(x,0):=by
 unfold rA;by_cases h3:kd=3
 ·rw[if_pos h3,if_pos h3];simp only[sP];by_cases hc:eG W x.m=true
  ·rw[if_pos hc,if_pos ⟨h3,hc⟩]
  ·rw[if_neg hc,if_neg (show¬(kd=3∧eG W x.m=true) from fun h=>hc h.2)]
 ·rw[if_neg h3,if_neg h3,if_neg (show¬(kd=3∧eG W x.m=true) from fun h=>h3 h.1)];simp only[ti]
theorem ain(mk:Nat):bU .and .u64 ((mk:Nat):Int) 1=some (.int .u64 ((mk%2:Nat):Int)):=by
 have e2:(BitVec.ofInt 64 ((mk:Nat):Int)&&&BitVec.ofInt 64 1).toNat=mk%2:=by
  have h1:BitVec.ofInt 64 1=1#64:=by decide
  rw[h1,BitVec.toNat_and,BitVec.ofInt_natCast,BitVec.toNat_ofNat,BitVec.toNat_ofNat,show 1%2^64=1 by decide,Nat.and_one_is_mod];omega
 have e3:bU .and .u64 ((mk:Nat):Int) 1=some (.int .u64 (IntKind.u64.wrap (((BitVec.ofInt 64 ((mk:Nat):Int)&&&BitVec.ofInt 64 1).toNat:Nat):Int))):=rfl;rw[e3,e2,wrap_u64 (by omega) (by omega)]
theorem ajY{w0 w:World}{b c:Nat}{Q:List Is}{inp:List Int}{cv iv:Value}{r:gh}{x:Lf}{g:Nat}(hP:HO c Q)(h:Bw w0 w b (Q++[bA]) inp cv iv r x.m x.k x.p)(hI:jd (Q++[bA]) inp c x g)(hg:g≤300000)(fF:inp.length≤100000)(u3:c≤48)(s:Sp)(hf:jA s=0):aC prog 56 [.pointer (some ⟨b,0,none⟩),.agg (jU s).toArray] w fun v w'=>v=.int .i64 ((lh (Q++[bA]) inp s x).2:Nat)∧mW w0 w w' b (Q++[bA]) inp cv iv r (lh (Q++[bA]) inp s x).1.m (lh (Q++[bA]) inp s x).1.k (lh (Q++[bA]) inp s x).1.p:=by
 obtain⟨kd,N,K,mk⟩:=s;obtain⟨f1,f2,f3,f4,f5,f6,f7⟩:=hI.fit hP;refine aG 49 func56 ?_;refine au ?_;refine aj (bY (jU (kd,N,K,mk)) rfl ?_);intro w1 x1 cJ bt ah aM;have h1:=h.aA ah;refine lB aM ?_;by_cases h2:kd=2
 ·have e:lh (Q++[bA]) inp (kd,N,K,mk) x=(BQ x,0):=by
   unfold lh uF;rw[if_pos h2]
  rw[e];refine ye ?_;refine oC (FY h1 ⟨by omega,by omega⟩) ?_;rintro v w2⟨rfl,r2,EZ⟩;refine au ?_;exact ay func56 rfl ⟨rfl,r2,EZ.late ah⟩
 have hN:0≤N∧N≤3000:=by
  unfold jA at hf;simp only at hf;split at hf
  ·omega
  ·split at hf
   ·omega
   ·rename_i g1 g3
    constructor
    ·exact Int.not_lt.1 fun h=>g3 (.inl ⟨h2,.inl h⟩)
    ·exact Int.not_lt.1 fun h=>g3 (.inl ⟨h2,.inr h⟩)
 obtain⟨n,rfl⟩:∃n:Nat,N=(n:Nat):=⟨N.toNat,by omega⟩;obtain⟨kp,Fe⟩:∃kp,kp=qd (kd,((n:Nat):Int),K,mk):=⟨_,rfl⟩;have e:lh (Q++[bA]) inp (kd,((n:Nat):Int),K,mk) x=rA (Q++[bA]) inp kd kp n x:=by
  unfold lh uF rA;rw[if_neg h2,←Fe];rfl
 rw[e];obtain⟨bq,ec⟩:∃bq,bq=rA (Q++[bA]) inp kd kp n x:=⟨_,rfl⟩;rw[←ec];refine aL ?_;refine au ?_;have CP:x1∉dz b cv r:=fun hm=>by have:=(h.own x1 hm).2;omega
 refine cP (fun q σ w'=>∃(j:Nat) (xj:Lf) (rj:gh) (gj:Nat),j≤n∧q=n-j∧σ=[(0,.pointer (some ⟨b,0,none⟩)),(3,.pointer (some ⟨x1,0,none⟩)),(5,.int .i64 (j:Nat))]∧bq=((rA (Q++[bA]) inp kd kp (n-j) xj).1,j+(rA (Q++[bA]) inp kd kp (n-j) xj).2)∧
  eZ w0 w1 w' b (Q++[bA]) inp cv iv r rj xj.m xj.k xj.p∧jd (Q++[bA]) inp c xj gj∧gj≤g+j∧ak w' x1 (jU (kd,((n:Nat):Int),K,mk)) 88∧x1∉dz b cv rj) n _ ?_ ⟨0,x,r,g,by omega,by omega,rfl,by rw[ec,Nat.sub_zero,Nat.zero_add],eZ.refl h1,hI,by omega,aM,CP⟩ ?_
 ·exact⟨rfl,rfl,rfl,trivial⟩
 rintro q σ w2 ih⟨j,xj,rj,gj,hj,rfl,rfl,bR,jS,IA,L5,aX,iZ⟩;obtain⟨f1,f2,f3,f4,f5,f6,f7⟩:=IA.fit hP;refine lB aX ?_;by_cases uB:j<n
 rotate_left
 ·refine aL ?_;rw[show n-j=0 by omega]at bR;have cF:bq=(xj,j):=by
   rw[bR];unfold rA;split<;>rfl
  refine au ?_;rw[cF];exact ay func56 rfl ⟨rfl,rj,jS.late ah⟩
 refine ye ?_;obtain⟨m,hm⟩:∃m,n-j=m+1:=⟨n-j-1,by omega⟩;rw[hm,aim]at bR;refine aP ?_;refine pc ?_;refine bT ?_;refine fx (fun σ' w'=>¬(kd=3∧eG (Q++[bA]) xj.m=true)∧ae [] w2 w'∧Sub [(0,.pointer (some ⟨b,0,none⟩)),(3,.pointer (some ⟨x1,0,none⟩)),(5,.int .i64 (j:Nat))] σ') ?_ ?_
 rotate_left
 ·intro fin;refine bT ?_;refine cH ?_;refine aP ?_;refine lB aX ?_;by_cases h3:kd=3
  rotate_left
  ·refine aL ?_;refine aP ?_;exact fin _ _ ⟨fun h=>h3 h.1,ae.refl _ _,rfl,rfl,rfl,trivial⟩
  refine ye ?_;refine aP ?_;refine oC (adn jS.1 f1) ?_;rintro v w3⟨rfl,aw⟩;cases gQ:eG (Q++[bA]) xj.m with
  |false=>
   refine aP ?_;exact fin _ _ ⟨(fun h=>by rw[gQ]at h;cases h.2),aw,rfl,rfl,rfl,trivial⟩
  | true=>
   rw[if_pos ⟨h3,gQ⟩]at bR;have fY:=jS.aA aw;have aQ:=aw.af aX (by simp);have aZ:∀{w4:World},ae [] w3 w4→aC prog 53 [.pointer (some ⟨b,0,none⟩),.bool kp] w4 fun v w'=>v=.bool (decide (xj.m.state=0))∧mW w0 w4 w' b (Q++[bA]) inp cv iv rj (iP (Q++[bA]) inp kp xj).m (iP (Q++[bA]) inp kp xj).k (iP (Q++[bA]) inp kp xj).p:=fun{w4} hk=>NL hP (fY.1.aA hk) f1 fF (by omega) (by omega) kp;obtain⟨g4,_,Aw,Sq⟩:=IA.step kp;obtain⟨_,_,_,_,s5,s6,_⟩:=Sq.fit hP;have Ls:kp=(K==0||(K==1&&mk%2==1)):=Fe;refine lB aQ ?_;by_cases ME:K=0
   ·have oS:kp=true:=by rw[Ls,ME];rfl
    rw[oS]at aZ bR s5 s6;refine ye ?_;refine oC (aZ (ae.refl _ _)) ?_;rintro v w4⟨rfl,r4,h4⟩;refine oC (FY h4.1 ⟨by omega,by omega⟩) ?_;rintro v w5⟨rfl,r5,h5⟩;refine nM ((j+1:Nat):Int) ?_;refine au ?_;rw[bR];exact ay func56 rfl ⟨rfl,r5,((fY.seq h4).seq h5).late ah⟩
   refine aL ?_;refine lB aQ ?_;by_cases IB:K=1
   ·refine ye ?_;refine lB aQ ?_;refine ai (.int .u64 ((mk%2:Nat):Int)) (bP .u64 _ 1 _ rfl (ain mk) w3) ?_;by_cases oo:mk%2=1
    ·have oS:kp=true:=by rw[Ls,IB,oo];rfl
     rw[oS]at aZ bR s5 s6;refine ye ?_;refine oC (aZ (ae.refl _ _)) ?_;rintro v w4⟨rfl,r4,h4⟩;refine oC (FY h4.1 ⟨by omega,by omega⟩) ?_;rintro v w5⟨rfl,r5,h5⟩;refine nM ((j+1:Nat):Int) ?_;refine au ?_;rw[bR];exact ay func56 rfl ⟨rfl,r5,((fY.seq h4).seq h5).late ah⟩
    ·have oS:kp=false:=by rw[Ls,IB,show(mk%2==1)=false by simpa using oo];rfl
     rw[oS]at aZ bR s5 s6;refine aL ?_;refine oC (aZ (ae.refl _ _)) ?_;rintro v w4⟨rfl,r4,h4⟩;refine oC (FY h4.1 ⟨by omega,by omega⟩) ?_;rintro v w5⟨rfl,r5,h5⟩;refine nM ((j+1:Nat):Int) ?_;refine au ?_;rw[bR];exact ay func56 rfl ⟨rfl,r5,((fY.seq h4).seq h5).late ah⟩
   ·have oS:kp=false:=by rw[Ls,show(K==0)=false by simpa using ME,show(K==1)=false by simpa using IB];rfl
    rw[oS]at aZ bR s5 s6;refine aL ?_;refine oC (aZ (ae.refl _ _)) ?_;rintro v w4⟨rfl,r4,h4⟩;refine oC (FY h4.1 ⟨by omega,by omega⟩) ?_;rintro v w5⟨rfl,r5,h5⟩;refine nM ((j+1:Nat):Int) ?_;refine au ?_;rw[bR];exact ay func56 rfl ⟨rfl,r5,((fY.seq h4).seq h5).late ah⟩
 rintro σ' w3⟨ku,aw,bH⟩;refine bj bH ?_;rw[if_neg ku]at bR;have fY:=jS.aA aw;have aQ:=aw.af aX (by simp);refine oC (NL hP fY.1 f1 fF (by omega) (by omega) true) ?_;rintro v w4⟨rfl,r4,h4⟩;by_cases kb:xj.m.state=0
 ·rw[if_pos kb]at bR;rw[show decide (xj.m.state=0)=true by simp[kb]];obtain⟨g4,_,Aw,Sq⟩:=IA.step true;obtain⟨a_,fG⟩:=h4.af iZ aQ;have MF:eZ w0 w3 w4 b (Q++[bA]) inp cv iv rj r4 (iP (Q++[bA]) inp true xj).m (iP (Q++[bA]) inp true xj).k (iP (Q++[bA]) inp true xj).p:=h4;refine nM ((j+1:Nat):Int) ?_;refine au ?_;refine bj ?_ (ih (n-(j+1)) _ w4 (by omega) ⟨j+1,iP (Q++[bA]) inp true xj,r4,g4,by omega,rfl,rfl,?_,fY.seq MF,Sq,by omega,a_,fG⟩)
  ·exact⟨rfl,rfl,rfl,trivial⟩
  ·rw[bR,show n-(j+1)=m by omega,show j+((rA (Q++[bA]) inp kd kp m (iP (Q++[bA]) inp true xj)).2+1)=j+1+(rA (Q++[bA]) inp kd kp m (iP (Q++[bA]) inp true xj)).2 by omega]
 ·rw[if_neg kb]at bR;rw[show decide (xj.m.state=0)=false by simp[kb]];have e:∀{P:Prop},(eD (Q++[bA]) inp xj.m xj.p).1=xj.m∧(eD (Q++[bA]) inp xj.m xj.p).2=xj.p:=by
   unfold eD;rw[if_neg kb];exact⟨rfl,rfl⟩
  have iJ:eG (Q++[bA]) xj.m=false:=by
   unfold eG;simp[kb]
  rw[(e (P:=True)).1,(e (P:=True)).2,iJ]at h4;have MF:eZ w0 w3 w4 b (Q++[bA]) inp cv iv rj r4 xj.m xj.k xj.p:=h4;refine au ?_;rw[bR];exact ay func56 rfl ⟨rfl,r4,(fY.seq MF).late ah⟩
def tf(n:Nat)(w:World):World:={w with heap:=w.heap.extract 0 n}
section
variable{w w0 w':World}{n b:Nat}{W:List Is}{inp:List Int}{cv iv:Value}{r:gh}{m k:Md}{p:Pr}
theorem xX(h:n≤w.heap.size):(tf n w).heap.size=n:=by simp[tf];omega
theorem On{k:Nat}(h:n≤w.heap.size)(hk:k<n):(tf n w).heap[k]?=w.heap[k]?:=by
 simp only[tf];rw[Array.getElem?_extract];simp;omega
theorem WL(h:n≤w.heap.size):ae [] (tf n w) w:=⟨rfl,rfl,rfl,by rw[xX h];exact h,fun k hk _=>(On h (by rw[xX h]at hk;exact hk)).symm⟩
theorem X5{w1:World}(h:GQ w0 iv inp)(hs:w0.heap.size≤n)(hn:n≤w1.heap.size)(hr:∀bb q,iv=.slice (some ⟨bb,q,none⟩) inp.length (sK iv)→bb<w0.heap.size→w1.heap[bb]?=w0.heap[bb]?):GQ (tf n w1) iv inp:=by
 obtain⟨a,cap,e,h2⟩:=h;refine⟨a,cap,e,fun h0=>?_⟩;obtain⟨bb,q,rfl,h3,h4⟩:=h2 h0;refine⟨bb,q,rfl,by rw[xX hn];omega,fun j u hu=>?_⟩;have hx:=h4 j u hu;have hh:(tf n w1).heap[bb]?=w0.heap[bb]?:=by rw[On hn (by omega)];exact hr bb q (by rw[e];rfl) h3
 exact(World.cell?_of_block (a:=⟨bb,q+j,none⟩) hh).trans hx
theorem Bw.shift(h:Bw w0 w b W inp cv iv r m k p)(hn:w0.heap.size=n):Bw (tf n w) w b W inp cv iv r m k p:=by
 have hs:n≤w.heap.size:=by rw[←hn];exact h.kp.size
 have e:=xX hs;have hi:GQ (tf n w) iv inp:=X5 h.inp (by omega) hs fun bb q _ hb=>h.kp.block bb hb (by simp);refine⟨WL hs,by rw[e,←hn];exact h.ge,h.bk,?_,hi,?_,?_,?_,?_,?_,h.ap⟩
 ·rw[e,←hn];exact h.cd
 ·rw[e,←hn];exact h.rs
 ·rw[e,←hn];exact h.rc
 ·rw[e,←hn];exact h.rh
 ·rw[e,←hn];exact h.ri
 ·rw[e,←hn];exact h.ro
theorem Bw.others{fp:List Nat}(h:Bw (tf n w) w b W inp cv iv r m k p)(hn:n≤w.heap.size)(hk:ae fp w w')(h1:∀x∈dz b cv r,x∉fp)(h2:∀bb q c,iv=.slice (some ⟨bb,q,none⟩) inp.length c→bb∉fp):Bw (tf n w') w' b W inp cv iv r m k p:=by
 have hs:n≤w'.heap.size:=Nat.le_trans hn hk.size;have e:=xX hn;have e':=xX hs;have hi:GQ (tf n w') iv inp:=X5 h.inp (by omega) hs fun bb q he hb=>by
  rw[On hn (by omega)];exact hk.block bb (by omega) (h2 bb q _ he)
 refine⟨WL hs,by rw[e',←e];exact h.ge,hk.af h.bk (h1 b (by simp[dz])),?_,hi,?_,?_,?_,?_,?_,h.ap⟩
 ·rw[e',←e];exact h.cd.kG hk fun x hx=>h1 x (by simp[dz,hx])
 ·rw[e',←e];exact h.rs.keep hk fun x hx=>h1 x (by simp[dz,hx])
 ·rw[e',←e];exact h.rc.keep hk fun x hx=>h1 x (by simp[dz,hx])
 ·rw[e',←e];exact h.rh.keep hk fun x hx=>h1 x (by simp[dz,hx])
 ·rw[e',←e];exact h.ri.keep hk fun x hx=>h1 x (by simp[dz,hx])
 ·rw[e',←e];exact h.ro.keep hk fun x hx=>h1 x (by simp[dz,hx])
end
abbrev TR:Nat:=31
def AE(B:Nat)(w:World)(bv:Value)(fb fi:List Nat):Option (List aJ×List ST×List Int×Lf)→Prop
 |none=>bv=.pointer none∧fb=[]∧fi=[]
 |some q=>∃b cv iv r n,bv=.pointer (some ⟨b,0,none⟩)∧B≤n∧n≤w.heap.size∧Bw (tf n w) w b (bB q.1 q.2.1) q.2.2.1 cv iv r q.2.2.2.m q.2.2.2.k q.2.2.2.p∧fb=dz b cv r∧fi=aW iv∧∀k∈fi,k<n
structure Rv(B:Nat)(w:World)(r:Nat)(L:List UInt8)(tv iv bv:Value)(fb fi:List Nat)(s:Ds):Prop where
 bk:ak w r [.string (str L),tv,iv,bv] TR
 lo:B≤r
 tx:Own w B TS 1 tv s.bI.length (strs s.bI)
 ip:bl w B iv s.inp
 lf:AE B w bv fb fi s.fZ
 rd:∀k∈fi,B≤k∧∃X,ak w k X dA
 dj:∀k∈fb,k≠r∧k∉aW tv∧k∉aW iv
def vL(r:Nat)(tv iv:Value)(fb fi:List Nat):List Nat:=r::(aW tv++aW iv++fb++fi)
def iw(B:Nat)(w:World)(r:Nat)(fr:List Nat)(L:List UInt8)(s:Ds):Prop:=∃tv iv bv fb fi,Rv B w r L tv iv bv fb fi s∧fr=vL r tv iv fb fi
theorem QA:TR≠TS:=by decide
theorem G9:TR≠dA:=by decide
section
variable{B:Nat}{w w1 w2:World}{r:Nat}{L L':List UInt8}{tv iv bv:Value}{fb fi fp:List Nat}{s:Ds}
theorem f_{k:Nat}:k∈vL r tv iv fb fi↔k=r∨k∈aW tv∨k∈aW iv∨k∈fb∨k∈fi:=by simp[vL]
theorem AE.lt{o:Option (List aJ×List ST×List Int×Lf)}(h:AE B w bv fb fi o):∀k∈fb,B≤k∧k<w.heap.size:=by
 cases o with
 |none=>intro k hk;rw[h.2.1]at hk;cases hk
 |some q=>
  obtain⟨b,cv,iv,r,n,_,h2,h3,h4,rfl,_⟩:=h;intro k hk;have:=h4.own k hk;rw[xX h3]at this;exact⟨Nat.le_trans h2 this.1,this.2⟩
theorem AE.keep{o:Option (List aJ×List ST×List Int×Lf)}(h:AE B w bv fb fi o)(hk:ae fp w w1)(hn:∀k∈fb,k∉fp)(hi:∀k∈fi,k∉fp):AE B w1 bv fb fi o:=by
 cases o with
 |none=>exact h
 |some q=>
  obtain⟨b,cv,iv,r,n,h1,h2,h3,h4,rfl,rfl,h5⟩:=h;exact⟨b,cv,iv,r,n,h1,h2,Nat.le_trans h3 hk.size,h4.others h3 hk hn fun bb q c e=>hi bb (iM.2 (by rw[e];rfl)),rfl,rfl,h5⟩
theorem Rv.lt(h:Rv B w r L tv iv bv fb fi s):∀k∈vL r tv iv fb fi,B≤k∧k<w.heap.size:=fun k hk=>by
 rcases f_.1 hk with rfl|hk|hk|hk|hk
 ·exact⟨h.lo,h.bk.lt⟩
 ·exact h.tx.lt k (iM.1 hk)
 ·exact h.ip.lt k hk
 ·exact h.lf.lt k hk
 ·obtain⟨h1,X,hX⟩:=h.rd k hk;exact⟨h1,hX.lt⟩
theorem Rv.keep(h:Rv B w r L tv iv bv fb fi s)(hk:ae fp w w1)(hn:∀k∈vL r tv iv fb fi,k∉fp):Rv B w1 r L tv iv bv fb fi s:=
 ⟨hk.af h.bk (hn r (f_.2 (.inl rfl))),h.lo,h.tx.keep hk fun k aK=>hn k (f_.2 (.inr (.inl (iM.2 aK)))),h.ip.keep hk fun k aK=>hn k (f_.2 (.inr (.inr (.inl aK)))),
  h.lf.keep hk (fun k aK=>hn k (f_.2 (.inr (.inr (.inr (.inl aK)))))) fun k aK=>hn k (f_.2 (.inr (.inr (.inr (.inr aK))))),
  fun k aK=>let⟨a,X,hX⟩:=h.rd k aK;⟨a,X,hk.af hX (hn k (f_.2 (.inr (.inr (.inr (.inr aK))))))⟩,h.dj⟩
theorem iw.lt{fr:List Nat}(h:iw B w r fr L s):∀k∈fr,B≤k∧k<w.heap.size:=by
 obtain⟨tv,iv,bv,fb,fi,h,rfl⟩:=h;exact h.lt
theorem iw.keep{fr:List Nat}(h:iw B w r fr L s)(hk:ae fp w w1)(hn:∀k∈fr,k∉fp):iw B w1 r fr L s:=by
 obtain⟨tv,iv,bv,fb,fi,h,rfl⟩:=h;exact⟨tv,iv,bv,fb,fi,h.keep hk hn,rfl⟩
theorem iw.aA{fr:List Nat}(h:iw B w r fr L s)(hk:ae [] w w1):iw B w1 r fr L s:=h.keep hk fun _ _=>by simp
theorem Rv.ne(h:Rv B w r L tv iv bv fb fi s):r∉aW tv∧r∉aW iv∧r∉fi∧r∉fb∧(∀k∈aW tv,k∉aW iv∧k∉fi):=by
 refine⟨fun hm=>?_,fun hm=>?_,fun hm=>?_,fun hm=>(h.dj r hm).1 rfl,fun k hk=>⟨fun hm=>?_,fun hm=>?_⟩⟩
 ·obtain⟨X,hX⟩:=mj h.tx r hm;exact ak.ne h.bk hX QA rfl
 ·obtain⟨X,hX⟩:=mj h.ip r hm;exact ak.ne h.bk hX G9 rfl
 ·obtain⟨_,X,hX⟩:=h.rd r hm;exact ak.ne h.bk hX G9 rfl
 ·obtain⟨X,hX⟩:=mj h.tx k hk;obtain⟨Y,hY⟩:=mj h.ip k hm;exact ak.ne hX hY Ql rfl
 ·obtain⟨X,hX⟩:=mj h.tx k hk;obtain⟨_,Y,hY⟩:=h.rd k hm;exact ak.ne hX hY Ql rfl
theorem Rv.put(h:Rv B w r L tv iv bv fb fi s){qy vG jf:Value}{fb' fi':List Nat}{s':Ds}(hk:ae [r] w w1)(hb:ak w1 r [.string (str L'),qy,vG,jf] TR)(pS:Own w B TS 1 qy s'.bI.length (strs s'.bI))(hip:bl w B vG s'.inp)(xA:AE B w jf fb' fi' s'.fZ)(Ak:∀k∈fi',B≤k∧∃X,ak w k X dA)(Cr:∀k∈fb',k≠r∧k∉aW qy∧k∉aW vG):Rv B w1 r L' qy vG jf fb' fi' s':=by
 have n1:∀{k:Nat},k∈[r]→k=r:=fun h=>List.mem_singleton.1 h;refine⟨hb,h.lo,pS.keep hk fun k aK hm=>?_,hip.keep hk fun k aK hm=>?_,xA.keep hk (fun k aK hm=>(Cr k aK).1 (n1 hm)) fun k aK hm=>?_,fun k aK=>?_,Cr⟩
 ·obtain⟨X,hX⟩:=mj pS k (iM.2 aK);rw[n1 hm]at hX;exact ak.ne h.bk hX QA rfl
 ·obtain⟨X,hX⟩:=mj hip k aK;rw[n1 hm]at hX;exact ak.ne h.bk hX G9 rfl
 ·obtain⟨_,X,hX⟩:=Ak k aK;rw[n1 hm]at hX;exact ak.ne h.bk hX G9 rfl
 ·obtain⟨a,X,hX⟩:=Ak k aK;exact⟨a,X,hk.af hX fun hm=>by rw[n1 hm]at hX;exact ak.ne h.bk hX G9 rfl⟩
theorem Rv.told(h:Rv B w r L tv iv bv fb fi s)(hk:ae [r] w w1)(hb:ak w1 r [.string (str L'),tv,iv,bv] TR):Rv B w1 r L' tv iv bv fb fi s:=h.put hk hb h.tx h.ip h.lf h.rd h.dj
end
def mf(w00 w w':World)(r:Nat)(fr:List Nat)(L:List UInt8)(s:Ds):Prop:=∃qt,iw w00.heap.size w' r qt L s∧Tn fr qt w w'
section
variable{w00 w w1 w2:World}{r:Nat}{fr:List Nat}{L L2:List UInt8}{s s2:Ds}
theorem mf.late(hk:ae [] w w1)(h:mf w00 w1 w2 r fr L s):mf w00 w w2 r fr L s:=let⟨f,h1,h2⟩:=h;⟨f,h1,Tn.late hk h2⟩
theorem mf.on{fr1:List Nat}(ht:Tn fr fr1 w w1)(h:mf w00 w1 w2 r fr1 L s):mf w00 w w2 r fr L s:=let⟨f,h1,h2⟩:=h;⟨f,h1,ht.tr h2⟩
theorem iw.k0{qt:List Nat}(h:iw w00.heap.size w r fr L s)(hk:ae [] w00 w)(ht:Tn fr qt w w1):ae [] w00 w1:=hk.trans ht.1 fun k hm=>.inr (h.lt k hm).1
theorem iw.mem(h:iw w00.heap.size w r fr L s):r∈fr:=by
 obtain⟨tv,iv,bv,fb,fi,h,rfl⟩:=h;exact f_.2 (.inl rfl)
end
theorem agC(v:Int)(h0:-9223372036854775808≤v)(h1:v≤9223372036854775807){w:World}(hw:Lt w):aC prog 49 [.int .i64 v] w fun r w'=>r=.string (str (Lib.itoa v))∧ae [] w w':=by
 refine Calls.mono (Any.strconv_Itoa Tryz.ah9 v h0 h1 w hw.E6) ?_;rintro e w'⟨rfl,k,os,rfl⟩;exact⟨_,rfl,rfl,VA _ _ _⟩
theorem WM:dH prog 9 1=true:=by kernel_rfl
section
variable{w00 w:World}{r:Nat}{fr:List Nat}{L:List UInt8}{s:Ds}
theorem DO(t:List UInt8){B:Nat}(h:iw B w r fr L s)(hl:L.length+t.length≤900000000000):aC prog 27 [.pointer (some ⟨r,0,none⟩),.string (str t)] w fun q w'=>q=.tuple #[]∧iw B w' r fr (L++t++[10]) s∧ae [r] w w':=by
 obtain⟨tv,iv,bv,fb,fi,h,rfl⟩:=h;refine aG 13 func27 ?_;refine lB h.bk ?_;refine au ?_;refine ai _ (val_add t [10] rfl rfl rfl (by simp;omega) w) ?_;refine ai _ (val_add L (t++[10]) rfl rfl rfl (by simp;omega) w) ?_;refine au ?_;refine aj (aH [.string (str (L++(t++[10])))] rfl WM h.bk (by simp) (lg rfl) ?_);intro w1 bt ah aM;have G2:ak w1 r [.string (str (L++(t++[10]))),tv,iv,bv] TR:=aM;refine au ?_;rw[List.append_assoc];exact bK func27 rfl ⟨rfl,⟨_,_,_,_,_,h.told ah G2,rfl⟩,ah⟩
theorem wB{v:Int}(h:dm v)(hw:Lt w):aC prog 30 [.int .i64 v] w fun q w'=>q=.string (str (Lib.itoa v))∧ae [] w w':=by
 refine aG 5 func30 ?_;refine oC (agC v h.1 h.2 hw) ?_;rintro q w1⟨rfl,ah⟩;refine au ?_;exact ay func30 rfl ⟨rfl,ah⟩
theorem WN{v:Value}{ns:List Int}(h:eS w v ns)(si:fM ns)(hl:ns.length≤1000000)(hw:Lt w):aC prog 54 [v] w fun q w'=>q=.string (str (jN ns))∧ae [] w w':=by
 obtain⟨a,cap,rfl⟩:=h.form;refine aG 20 func54 ?_;refine au ?_;refine cP (fun t σ w'=>∃j:Nat,j≤ns.length∧t=ns.length-j∧σ=[(0,.slice a ns.length cap),(3,.string (str (jN (ns.take j)))),(4,.int .i64 (j:Nat))]∧ae [] w w')
  ns.length _ ?_ ⟨0,Nat.zero_le _,rfl,rfl,ae.refl _ _⟩ ?_
 ·exact⟨rfl,rfl,rfl,trivial⟩
 rintro t σ w2 ih⟨j,hj,rfl,rfl,hk⟩;refine au ?_;by_cases az:j<ns.length
 rotate_left
 ·refine aL ?_;refine au ?_;rw[List.take_of_length_le (by omega)];exact ay func54 rfl ⟨rfl,hk⟩
 refine ye ?_;refine au ?_;obtain⟨x,hx⟩:∃x,ns[j]?=some x:=⟨_,List.getElem?_eq_getElem az⟩;have yx:=si x (List.mem_of_getElem? hx);obtain⟨b,q,iF,e1,_,hr⟩:=(h.aA hk).at hx;injection e1 with e1 _ e3;subst e1 e3;refine ai _ (bJ j rfl az w2) ?_;refine ai (.int .i64 x) (aB rfl (by simpa using hr 0 _ rfl)) ?_;refine oC (Fz x yx.1 yx.2 (hw.keep hk)) ?_;rintro q w3⟨rfl,aw⟩;have uw:=F5 (ns:=ns.take j) fun v hv=>si v (List.mem_of_mem_take hv);have ox:(ns.take j).length=j:=by simp;omega
 have hit:=Lib.itoa_length_le x yx.1 yx.2;refine ai _ (val_add [32] (Lib.itoa x) rfl rfl rfl (by simp;omega) w3) ?_;refine ai _ (val_add (jN (ns.take j)) ([32]++Lib.itoa x) rfl rfl rfl (by simp;omega) w3) ?_;refine nM ((j+1:Nat):Int) ?_;refine au ?_;have e:jN (ns.take j)++([32]++Lib.itoa x)=jN (ns.take (j+1)):=by
  rw[List.take_add_one,hx];simp[jN]
 rw[e];refine bj ?_ (ih (ns.length-(j+1)) [(0,.slice (some ⟨b,q,none⟩) ns.length cap),(3,.string (str (jN (ns.take (j+1))))),(4,.int .i64 ((j+1:Nat):Int))] w3 (by omega) ⟨j+1,az,rfl,rfl,hk.tr aw⟩);exact⟨rfl,rfl,rfl,trivial⟩
theorem ah_(wd:List UInt8)(n:Int):eN wd [n]=wd++[32]++Lib.itoa n++[10]:=by simp[eN,jN]
theorem Ep(wd:List UInt8){n:Int}{B:Nat}(h:iw B w r fr L s)(hl:L.length+wd.length≤800000000000)(hn:dm n):aC prog 27 [.pointer (some ⟨r,0,none⟩),.string (str (wd++[32]++Lib.itoa n))] w fun q w'=>q=.tuple #[]∧iw B w' r fr (L++eN wd [n]) s∧ae [r] w w':=by
 have:=Lib.itoa_length_le n hn.1 hn.2;refine(DO (wd++[32]++Lib.itoa n) h (by simp;omega)).mono ?_;rintro q w'⟨h1,h2,h3⟩;refine⟨h1,?_,h3⟩;rw[ah_,←List.append_assoc];exact h2
theorem T6{code:Int}{ov cv:Value}{o l:List Int}(hw:Lt w00)(bX:ae [] w00 w)(h:iw w00.heap.size w r fr L s)(hc:dm code)(ho:eS w ov o)(hl:eS w cv l)(no:NF ov [r])(nl:NF cv [r])(ao:fM o)(al:fM l)(HN:o.length≤1000000)(CM:l.length≤1000000)(hL:L.length≤700000000000):aC prog 33 [.pointer (some ⟨r,0,none⟩),.agg (cI code ov cv).toArray] w fun q w'=>q=.tuple #[]∧iw w00.heap.size w' r fr (L++tb code o l) s∧ae [r] w w':=by
 obtain⟨oa,oc,rfl⟩:=ho.form;obtain⟨ca,cc,rfl⟩:=hl.form;have hrB:=(h.lt r h.mem);have tn:=F5 ao;have tl:=F5 al;have t1:=rL (w:=wL) (by decide) (oI hc);simp only[List.length_cons,List.length_nil]at t1;have kr:∀{w1 w2:World},ae [] w00 w1→ae [r] w1 w2→ae [] w00 w2:=fun a b=>a.aO b hrB.1;refine aG 22 func33 ?_;refine au ?_;refine aj (bY (cI code (.slice oa o.length oc) (.slice ca l.length cc)) rfl ?_);intro w1 x3 fX bt ah cm;have AF:x3∉[r]:=fun hm=>by have:=List.mem_singleton.1 hm;omega
 refine lB cm ?_;refine oC (wB hc (hw.keep (bX.tr ah))) ?_;rintro q w2⟨rfl,an⟩;have br:=ah.tr an;refine ai _ (val_add (wL++[32]) (Lib.itoa code) rfl rfl rfl (by have:=Lib.itoa_length_le code hc.1 hc.2;simp[wL];omega) w2) ?_;refine oC (Ep wL (h.aA br) (by simp[wL];omega) hc) ?_;rintro q w3⟨rfl,h3,aw⟩;have lK:=aw.af (an.af cm (by simp)) AF;have Ze:=kr (bX.tr br) aw;have Ao:=(ho.aA br).kG aw no;have yV:=(hl.aA br).kG aw nl;refine lB lK ?_;refine oC (WN Ao ao HN (hw.keep Ze)) ?_;rintro q w4⟨rfl,ax⟩;refine ai _ (val_add wY (jN o) rfl rfl rfl (by simp[wY];omega) w4) ?_;refine oC (DO (wY++jN o) (h3.aA ax) (by simp[wY];omega)) ?_;rintro q w5⟨rfl,h5,aE⟩;have jg:=aE.af (ax.af lK (by simp)) AF;have alS:=kr (Ze.tr ax) aE;have Sb:=(yV.aA ax).kG aE nl;refine lB jg ?_;refine oC (WN Sb al CM (hw.keep alS)) ?_;rintro q w6⟨rfl,aD⟩;refine ai _ (val_add zD (jN l) rfl rfl rfl (by simp[zD];omega) w6) ?_;refine oC (DO (zD++jN l) (h5.aA aD) (by simp[wY,zD];omega)) ?_;rintro q w7⟨rfl,h7,aN⟩;refine au ?_;refine bK func33 rfl ⟨rfl,?_,?_⟩
 ·rw[show L++tb code o l=L++eN wL [code]++(wY++jN o)++[10]++(zD++jN l)++[10] by simp[tb,eN]];exact h7
 ·exact((br.bG.tr aw).dt ax).tr aE|>.dt aD|>.tr aN
end
theorem xV(a b:Int)(w:World):aC prog 15 [.int .i64 a,.int .i64 b] w fun r w'=>r=.agg #[.int .i64 a,.int .i64 b]∧ae [] w w':=by
 refine aG 8 func15 ?_;refine au ?_;refine aj (bO _ rfl o9 ?_);intro w1 c hc bt ah aM;refine au ?_;refine ai _ (bL _ rfl rfl (FE a b) w1) ?_;refine aj (aH [.int .i64 a,.int .i64 b] rfl gm aM (by simp) (gp _ _) ?_);intro w2 cE an aX;rw[bs (by rfl)]at aX;refine au ?_;exact df func15 (.inr (.inr (.inl ⟨_,_,_,rfl,rfl,cV hT aX rfl⟩))) ⟨rfl,ah.aO an (by omega)⟩
theorem Up(a:Int)(s:ByteArray):prog.built 181 [(0,.int .i64 a),(1,.string s)]=some [Value.int .i64 a,.string s,.bool false,.int .i64 0].toArray:=by kernel_rfl
theorem aex(a:Int)(s:ByteArray)(v:Int):prog.built 181 [(0,.int .i64 a),(1,.string s),(2,.bool true),(3,.int .i64 v)]=some [Value.int .i64 a,.string s,.bool true,.int .i64 v].toArray:=by kernel_rfl
theorem NG(a b c d:Value):kE prog 130 1 [(0,.agg #[a,b,c,d])]=some (181,#[a,b,c,d]):=by kernel_rfl
theorem OW{l:List UInt8}{i:Nat}{c:UInt8}{r t:List UInt8}{q:Bool}{z:Int}(hd:l.drop i=c::r)(h:bit c r=.tok t q z):(l.drop i).take (i+t.length-i)=t:=by
 obtain⟨u,s,rfl,rfl,_⟩:=DN h;rw[hd,Nat.add_sub_cancel_left,List.length_cons,List.take_succ_cons,List.take_left]
theorem ahf(l:List UInt8)(hl:l.length≤1000000){w:World}(hw:Lw w):aC prog 78 [.string (str l)] w fun x w'=> ∃v,x=.tuple #[v,.agg #[.int .i64 (kg l).1,.int .i64 (kg l).2]]∧Own w' w.heap.size 181 4 v (lS l).length ((lS l).flatMap dr)∧ae [] w w':=by
 refine aG 124 func78 ?_;refine au ?_;refine aj (bO _ rfl o9 ?_);intro w1 b gI bt ah aM;refine au ?_;refine ai _ (p_ l (by decide+kernel) rfl rfl w1) ?_;by_cases pX:6000<l.length
 ·refine ye ?_;refine oC (xV 3 6000 w1) ?_;rintro x w2⟨rfl,an⟩;have aX:=an.af aM (by simp);refine au ?_;refine aj (aH [.int .i64 3,.int .i64 6000] rfl gm aX (by simp) (gp _ _) ?_);intro w3 cw aw aQ;rw[bs (by rfl)]at aQ;refine au ?_;refine xZ func78 rfl rfl rfl (cV hT aQ rfl) ⟨.slice none 0 0,?_,?_,(ah.tr an).aO aw (by omega)⟩
  ·unfold kg;rw[if_pos pX]
  ·unfold lS;rw[if_pos pX];exact Own.nil _ _ _ _
 refine aL ?_;refine au ?_;refine cP (fun m σ w'=>∃(i:Nat) (acc:List Tok) (v:Value),i≤l.length∧m=l.length-i∧σ=[(0,.string (str l)),(3,.pointer (some ⟨b,0,none⟩)),(4,v),(5,.int .i64 (i:Nat))]∧acc.length≤i∧
  ug acc (jG l.length i (l.drop i))=qc l∧Own w' w.heap.size 181 4 v acc.length (acc.flatMap dr)∧ak w' b [.int .i64 0,.int .i64 0] 34∧ae [] w w') l.length _ ?_
  ⟨0,[],_,by omega,by omega,rfl,by simp,by rw[Xw];rfl,Own.nil _ _ _ _,aM,ah⟩ ?_
 ·exact⟨rfl,rfl,rfl,rfl,trivial⟩
 rintro m σ w2 ih⟨i,acc,v,hi,rfl,rfl,aoZ,j9,bW,aX,an⟩;refine au ?_;refine ai _ (p_ l (by decide+kernel) rfl rfl w2) ?_;by_cases az:i<l.length
 ·obtain⟨c,r,ig,cZ,IZ⟩:=Xx az;have hlen:(c::r).length≤l.length:=by rw[←ig,List.length_drop];omega
  have KM:(c::r).length=l.length-i:=by rw[←ig,List.length_drop]
  simp only[List.length_cons]at KM;refine ye ?_;refine au ?_;refine ai _ (wo l i c (by decide+kernel) rfl rfl rfl rfl cZ w2) ?_;refine nM ((i+1:Nat):Int) ?_;by_cases kZ:pq c=true
  ·have hn:=kZ;rw[Bq]at hn;simp only[Bool.or_eq_true,decide_eq_true_eq]at hn;rcases hn with((hn|hn)|hn)|hn
   all_goals
    refine aU ?_;refine bj ?_ (ih _ _ _ ?_ ⟨i+1,acc,v,az,rfl,rfl,by omega,?_,bW,aX,an⟩)
    ·exact⟨rfl,rfl,rfl,rfl,trivial⟩
    ·omega
    ·rw[ig,V9 (V_ c r kZ) hlen]at j9;rw[IZ];exact j9
  have HB:pq c=false:=by simpa using kZ
  have hn:c.toNat≠32∧c.toNat≠9∧c.toNat≠10∧c.toNat≠13:=by
   have h:=HB;rw[Bq]at h;simp only[Bool.or_eq_false_iff,decide_eq_false_iff_not]at h;exact⟨h.1.1.1,h.1.1.2,h.1.2,h.2⟩
  obtain⟨iy,iZ,cD,fG⟩:=hn;have CN:=DM fz r;have hwd:=DM cU r;by_cases hp:rQ c=true
  ·have jn:=V8 (r:=r) HB hp;rw[Kb,Bool.or_eq_true,decide_eq_true_eq,decide_eq_true_eq]at hp;rcases hp with hp|hp
   all_goals
    refine aU ?_;have ox:=Kd jn;have xg:i+([c]).length≤l.length:=by
     have:=ox.2;simp only[List.length_cons]at this⊢;omega
    refine ai _ (Gc l i (i+([c]).length) (by decide+kernel) rfl rfl rfl rfl rfl rfl (by omega) xg w2) ?_;rw[OW ig jn];refine au ?_;refine ai _ (bL _ rfl rfl (Up ((i:Nat):Int) (str ([c]))) w2) ?_;refine aj (eE _ _ rfl rfl (NG _ _ _ _) ?_);intro w8 g8 EU jP aS cB;have mR:=(bW).keep aS (by simp);have rq:=aS.af aX (by simp);have kP:=(an).tr aS;refine aj (ja w.heap.size 181 4 40 (acc.flatMap dr) (dn ((i:Nat):Int) ([c]) false 0) rfl rfl rfl (by decide+kernel) mR (cB.range (by rfl)) rfl (mN _ _ _ _) (by decide) (by simp only[maxLen];omega) (by omega) kP.size ?_);intro g9 Co w9 BX uo;have gY:=Kc kP mR uo;have y2:=qL rq (fQ mR rq (by decide)) uo;refine au ?_;refine bj ?_ (ih _ _ _ ?_ ⟨i+([c]).length,acc++[⟨i,[c],false,0⟩],.slice (some ⟨g9,0,none⟩) (acc.length+1) Co,xg,rfl,rfl,?_,?_,?_,y2,gY⟩)
    ·exact⟨rfl,rfl,rfl,rfl,trivial⟩
    ·have:=ox.1;omega
    ·have:=ox.1;simp only[List.length_append,List.length_cons,List.length_nil]at this⊢;omega
    ·rw[ig,JV acc jn hlen,←ig,List.drop_drop]at j9;exact j9
    ·have e1:(acc++[(⟨i,[c],false,0⟩:Tok)]).length=acc.length+1:=by simp
     have e2:(acc++[(⟨i,[c],false,0⟩:Tok)]).flatMap dr=acc.flatMap dr++dn ((i:Nat):Int) ([c]) false 0:=by
      rw[List.flatMap_append];rfl
     rw[e1,e2];exact BX
  have sh:rQ c=false:=by simpa using hp
  have S5:c.toNat≠40∧c.toNat≠41:=by
   have h:=sh;rw[Kb]at h;simpa using h
  obtain⟨l8,gT⟩:=S5;refine aU ?_;refine oC (Uo c w2) ?_;rintro x w3⟨rfl,rfl⟩;cases qo:fz c with
  | true=>
   have jn:=Xu (r:=r) HB sh qo;refine aP ?_;refine bT ?_;refine fx (fun σ' w'=>w'=w3∧∃j:Nat,j=i+(c::r.takeWhile fz).length∧Sub [(0,.string (str l)),(3,.pointer (some ⟨b,0,none⟩)),(4,v),(5,.int .i64 (i:Nat)),(7,.int .i64 (j:Nat))] σ') ?_ ?_
   rotate_left
   ·intro fin;refine pc ?_;refine cP (fun m σ w'=>∃j:Nat,i+1≤j∧j≤l.length∧m=l.length-j∧σ=[(0,.string (str l)),(3,.pointer (some ⟨b,0,none⟩)),(4,v),(5,.int .i64 (i:Nat)),(7,.int .i64 (j:Nat))]∧i+1+(r.takeWhile fz).length=j+((l.drop j).takeWhile fz).length∧w'=w3) (l.length-(i+1)) _ ?_
     ⟨i+1,by omega,by omega,rfl,rfl,by rw[IZ],rfl⟩ ?_
    ·exact⟨rfl,rfl,rfl,rfl,rfl,trivial⟩
    rintro m σ w9 nj⟨j,hj1,tN,rfl,rfl,ht,rfl⟩;refine au ?_;refine ai _ (p_ l (by decide+kernel) rfl rfl w9) ?_;by_cases jv:j<l.length
    ·refine ye ?_;refine au ?_;refine ai _ (wo l j l[j] (by decide+kernel) rfl rfl rfl rfl (List.getElem?_eq_getElem jv) w9) ?_;refine oC (Uo l[j] w9) ?_;rintro x bM⟨rfl,rfl⟩;rw[N4 jv]at ht;cases uz:fz l[j]with
     |true=>
      rw[uz,if_pos rfl,List.length_cons]at ht;refine nM ((j+1:Nat):Int) ?_;refine au ?_;refine bj ?_ (nj _ _ _ ?_ ⟨j+1,by omega,jv,rfl,rfl,by omega,rfl⟩)
      ·exact⟨rfl,rfl,rfl,rfl,rfl,trivial⟩
      ·omega
     |false=>
      rw[uz,if_neg (by decide),List.length_nil]at ht;refine aP ?_;have ej:j=i+(c::r.takeWhile fz).length:=by simp only[List.length_cons];omega
      exact fin _ _ ⟨rfl,j,ej,rfl,rfl,rfl,rfl,rfl,trivial⟩
    ·refine aL ?_;refine aP ?_;have e:j=l.length:=by omega
     rw[e,List.drop_length]at ht;have ej:j=i+(c::r.takeWhile fz).length:=by
      simp only[List.length_cons];simp at ht;omega
     exact fin _ _ ⟨rfl,j,ej,rfl,rfl,rfl,rfl,rfl,trivial⟩
   rintro σ' w5⟨rfl,j,rfl,bH⟩;refine bj bH ?_;refine au ?_;have ox:=Kd jn;have xg:i+(c::r.takeWhile fz).length≤l.length:=by
    have:=ox.2;simp only[List.length_cons]at this⊢;omega
   refine ai _ (Gc l i (i+(c::r.takeWhile fz).length) (by decide+kernel) rfl rfl rfl rfl rfl rfl (by omega) xg w5) ?_;rw[OW ig jn];refine au ?_;refine ai _ (bL _ rfl rfl (Up ((i:Nat):Int) (str (c::r.takeWhile fz))) w5) ?_;refine aj (eE _ _ rfl rfl (NG _ _ _ _) ?_);intro w8 g8 EU jP aS cB;have mR:=(bW).keep aS (by simp);have rq:=aS.af aX (by simp);have kP:=(an).tr aS;refine aj (ja w.heap.size 181 4 40 (acc.flatMap dr) (dn ((i:Nat):Int) (c::r.takeWhile fz) false 0) rfl rfl rfl (by decide+kernel) mR (cB.range (by rfl)) rfl (mN _ _ _ _) (by decide) (by simp only[maxLen];omega) (by omega) kP.size ?_);intro g9 Co w9 BX uo;have gY:=Kc kP mR uo;have y2:=qL rq (fQ mR rq (by decide)) uo;refine au ?_;refine bj ?_ (ih _ _ _ ?_ ⟨i+(c::r.takeWhile fz).length,acc++[⟨i,c::r.takeWhile fz,false,0⟩],.slice (some ⟨g9,0,none⟩) (acc.length+1) Co,xg,rfl,rfl,?_,?_,?_,y2,gY⟩)
   ·exact⟨rfl,rfl,rfl,rfl,trivial⟩
   ·have:=ox.1;omega
   ·have:=ox.1;simp only[List.length_append,List.length_cons,List.length_nil]at this⊢;omega
   ·rw[ig,JV acc jn hlen,←ig,List.drop_drop]at j9;exact j9
   ·have e1:(acc++[(⟨i,c::r.takeWhile fz,false,0⟩:Tok)]).length=acc.length+1:=by simp
    have e2:(acc++[(⟨i,c::r.takeWhile fz,false,0⟩:Tok)]).flatMap dr=acc.flatMap dr++dn ((i:Nat):Int) (c::r.takeWhile fz) false 0:=by
     rw[List.flatMap_append];rfl
    rw[e1,e2];exact BX
  | false=>
   refine oC (Vb c w3) ?_;rintro x w4⟨rfl,rfl⟩;by_cases hd:(cU c||c==45)=true
   ·have uA:=Yu (r:=r) HB sh qo hd;have lk:cU c=true∨(cU c=false∧c.toNat=45):=by
     rw[Kw]at hd;cases h:cU c with
     |true=>exact .inl rfl
     |false=>rw[h]at hd;exact .inr ⟨rfl,by simpa using hd⟩
    rcases lk with wg|⟨wg,P2⟩
    all_goals
     rw[wg];refine amx ?_;refine bT ?_;refine fx (fun σ' w'=>w'=w4∧∃j:Nat,j=i+(c::r.takeWhile cU).length∧Sub [(0,.string (str l)),(3,.pointer (some ⟨b,0,none⟩)),(4,v),(5,.int .i64 (i:Nat)),(7,.int .i64 (j:Nat))] σ') ?_ ?_
     rotate_left
     ·intro fin;refine pc ?_;refine cP (fun m σ w'=>∃j:Nat,i+1≤j∧j≤l.length∧m=l.length-j∧σ=[(0,.string (str l)),(3,.pointer (some ⟨b,0,none⟩)),(4,v),(5,.int .i64 (i:Nat)),(7,.int .i64 (j:Nat))]∧i+1+(r.takeWhile cU).length=j+((l.drop j).takeWhile cU).length∧w'=w4) (l.length-(i+1)) _ ?_
       ⟨i+1,by omega,by omega,rfl,rfl,by rw[IZ],rfl⟩ ?_
      ·exact⟨rfl,rfl,rfl,rfl,rfl,trivial⟩
      rintro m σ w9 nj⟨j,hj1,tN,rfl,rfl,ht,rfl⟩;refine au ?_;refine ai _ (p_ l (by decide+kernel) rfl rfl w9) ?_;by_cases jv:j<l.length
      ·refine ye ?_;refine au ?_;refine ai _ (wo l j l[j] (by decide+kernel) rfl rfl rfl rfl (List.getElem?_eq_getElem jv) w9) ?_;refine oC (Vb l[j] w9) ?_;rintro x bM⟨rfl,rfl⟩;rw[N4 jv]at ht;cases uz:cU l[j]with
       |true=>
        rw[uz,if_pos rfl,List.length_cons]at ht;refine nM ((j+1:Nat):Int) ?_;refine au ?_;refine bj ?_ (nj _ _ _ ?_ ⟨j+1,by omega,jv,rfl,rfl,by omega,rfl⟩)
        ·exact⟨rfl,rfl,rfl,rfl,rfl,trivial⟩
        ·omega
       |false=>
        rw[uz,if_neg (by decide),List.length_nil]at ht;refine aP ?_;have ej:j=i+(c::r.takeWhile cU).length:=by simp only[List.length_cons];omega
        exact fin _ _ ⟨rfl,j,ej,rfl,rfl,rfl,rfl,rfl,trivial⟩
      ·refine aL ?_;refine aP ?_;have e:j=l.length:=by omega
       rw[e,List.drop_length]at ht;have ej:j=i+(c::r.takeWhile cU).length:=by
        simp only[List.length_cons];simp at ht;omega
       exact fin _ _ ⟨rfl,j,ej,rfl,rfl,rfl,rfl,rfl,trivial⟩
     rintro σ' w5⟨rfl,j,rfl,bH⟩;refine bj bH ?_;refine au ?_;refine ai _ (Gc l i (i+(c::r.takeWhile cU).length) (by decide+kernel) rfl rfl rfl rfl rfl rfl (by omega) (by simp only[List.length_cons];omega) w5) ?_;have ao2:(l.drop i).take (i+(c::r.takeWhile cU).length-i)=c::r.takeWhile cU:=by
      rw[ig,Nat.add_sub_cancel_left,List.length_cons,List.take_succ_cons,Jp]
     rw[ao2];refine oC (VB (c::r.takeWhile cU) (by simp only[List.length_cons];omega) (hw.keep an)) ?_;rintro x w6⟨rfl,aD⟩;have dM:=aD.af aX (by simp);have mU:=bW.keep aD (by simp);have fy:=an.tr aD;unfold D5;cases hL:pk (c::r.takeWhile cU)with
     | none=>
      rw[hL]at uA;refine oC (xV 7 ((i:Nat):Int) w6) ?_;rintro x w7⟨rfl,aN⟩;have eC:=aN.af dM (by simp);refine au ?_;refine aj (aH [.int .i64 7,.int .i64 ((i:Nat):Int)] rfl gm eC (by simp) (gp _ _) ?_);intro w8 jP aS cB;rw[bs (by rfl)]at cB;refine au ?_;rw[ig,Oz uA hlen]at j9;obtain⟨e1,e2⟩:=Db pX j9.symm;refine xZ func78 rfl rfl rfl (cV hT cB rfl) ⟨.slice none 0 0,?_,?_,(fy.tr aN).aO aS (by omega)⟩
      ·rw[e1]
      ·rw[e2];exact Own.nil _ _ _ _
     | some z=>
      rw[hL]at uA;have jn:bit c r=.tok (c::r.takeWhile cU) true z:=uA;refine au ?_;have ox:=Kd jn;have xg:i+(c::r.takeWhile cU).length≤l.length:=by
       have:=ox.2;simp only[List.length_cons]at this⊢;omega
      refine ai _ (Gc l i (i+(c::r.takeWhile cU).length) (by decide+kernel) rfl rfl rfl rfl rfl rfl (by omega) xg w6) ?_;rw[OW ig jn];refine au ?_;refine ai _ (bL _ rfl rfl (aex ((i:Nat):Int) (str (c::r.takeWhile cU)) z) w6) ?_;refine aj (eE _ _ rfl rfl (NG _ _ _ _) ?_);intro w8 g8 EU jP aS cB;have mR:=(mU).keep aS (by simp);have rq:=aS.af dM (by simp);have kP:=(fy).tr aS;refine aj (ja w.heap.size 181 4 40 (acc.flatMap dr) (dn ((i:Nat):Int) (c::r.takeWhile cU) true z) rfl rfl rfl (by decide+kernel) mR (cB.range (by rfl)) rfl (mN _ _ _ _) (by decide) (by simp only[maxLen];omega) (by omega) kP.size ?_);intro g9 Co w9 BX uo;have gY:=Kc kP mR uo;have y2:=qL rq (fQ mR rq (by decide)) uo;refine au ?_;refine bj ?_ (ih _ _ _ ?_ ⟨i+(c::r.takeWhile cU).length,acc++[⟨i,c::r.takeWhile cU,true,z⟩],.slice (some ⟨g9,0,none⟩) (acc.length+1) Co,xg,rfl,rfl,?_,?_,?_,y2,gY⟩)
      ·exact⟨rfl,rfl,rfl,rfl,trivial⟩
      ·have:=ox.1;omega
      ·have:=ox.1;simp only[List.length_append,List.length_cons,List.length_nil]at this⊢;omega
      ·rw[ig,JV acc jn hlen,←ig,List.drop_drop]at j9;exact j9
      ·have e1:(acc++[(⟨i,c::r.takeWhile cU,true,z⟩:Tok)]).length=acc.length+1:=by simp
       have e2:(acc++[(⟨i,c::r.takeWhile cU,true,z⟩:Tok)]).flatMap dr=acc.flatMap dr++dn ((i:Nat):Int) (c::r.takeWhile cU) true z:=by
        rw[List.flatMap_append];rfl
       rw[e1,e2];exact BX
   ·have rD:(cU c||c==45)=false:=by simpa using hd
    have jn:=Xv (r:=r) HB sh qo rD;have wg:cU c=false:=by
     cases h:cU c with
     |true=>rw[h]at rD;cases rD
     |false=>rfl
    have P2:c.toNat≠45:=by
     rw[wg,Kw]at rD;simpa using rD
    rw[wg];refine aU ?_;refine oC (xV 7 ((i:Nat):Int) w4) ?_;rintro x w7⟨rfl,aN⟩;have eC:=aN.af aX (by simp);refine au ?_;refine aj (aH [.int .i64 7,.int .i64 ((i:Nat):Int)] rfl gm eC (by simp) (gp _ _) ?_);intro w8 jP aS cB;rw[bs (by rfl)]at cB;refine au ?_;rw[ig,Oz jn hlen]at j9;obtain⟨e1,e2⟩:=Db pX j9.symm;refine xZ func78 rfl rfl rfl (cV hT cB rfl) ⟨.slice none 0 0,?_,?_,(an.tr aN).aO aS (by omega)⟩
    ·rw[e1]
    ·rw[e2];exact Own.nil _ _ _ _
 ·refine aL ?_;refine au ?_;refine ai _ (bL _ rfl rfl I4 w2) ?_;refine au ?_;refine aj (aH [.int .i64 0,.int .i64 0] rfl gm aX (by simp) (gp _ _) ?_);intro w3 cw aw aQ;rw[bs (by rfl)]at aQ;refine au ?_;have kW:i=l.length:=by omega
  have P3:qc l=.ok acc:=by
   rw[←j9,kW,List.drop_length];have:jG l.length l.length []=.ok []:=by cases l.length<;>rfl
   rw[this];show Except.ok (acc++[])=_;rw[List.append_nil]
  obtain⟨e1,e2⟩:=Jl pX P3;refine xZ func78 rfl rfl rfl (cV hT aQ rfl) ⟨v,?_,?_,an.aO aw (by omega)⟩
  ·rw[e1]
  ·rw[e2];exact bW.keep aw (by intro k hk;simp;exact fun h=>fQ bW aX (by decide) k hk h.symm)
def cO(lv vv:Value)(fin i:Nat)(fl:bp):List Value:=[lv,.int .i64 (fin:Nat),.int .i64 (i:Nat),.int .i64 fl.1,.int .i64 fl.2,vv]
def Rs(w:World)(b:Nat)(lv vv:Value)(fin:Nat):Except bp Nat→Prop
 |.ok i=>ak w b (cO lv vv fin i (0,0)) 135
 |.error e=>e.1≠0∧∃i,ak w b (cO lv vv fin i e) 135
structure Cx(w:World)(lv vv:Value)(ts:List Tok)(vs:List aJ):Prop where
 tok:∃B,Own w B 181 4 lv ts.length (ts.flatMap dr)
 var:∃B,Own w B 137 2 vv vs.length (vs.flatMap dR)
 len:ts.length≤100000
 vk:vs.length≤100000
 bI:∀t∈ts,t.text.length≤100000
section
variable{w w':World}{b fin:Nat}{lv vv:Value}{ts:List Tok}{vs:List aJ}{x:Except bp Nat}
theorem Rs.af(h:Rs w b lv vv fin x):∃i fl,ak w b (cO lv vv fin i fl) 135:=by
 cases x with
 |ok i=>exact⟨i,_,h⟩
 |error e=>exact⟨h.2.choose,e,h.2.choose_spec⟩
theorem Rs.keep{fp:List Nat}(h:Rs w b lv vv fin x)(hk:ae fp w w')(hb:b∉fp):Rs w' b lv vv fin x:=by
 cases x with
 |ok i=>exact hk.af h hb
 |error e=>exact⟨h.1,h.2.choose,hk.af h.2.choose_spec hb⟩
theorem Rs.lt(h:Rs w b lv vv fin x):b<w.heap.size:=by
 obtain⟨i,fl,h⟩:=h.af;exact h.lt
theorem Cx.aA(h:Cx w lv vv ts vs)(hk:ae [] w w'):Cx w' lv vv ts vs:=
 ⟨let⟨B,ho⟩:=h.tok;⟨B,ho.keep hk (by simp)⟩,let⟨B,ho⟩:=h.var;⟨B,ho.keep hk (by simp)⟩,h.len,h.vk,h.bI⟩
theorem Cx.keep{L:List Value}(h:Cx w lv vv ts vs)(hb:ak w b L 135)(hk:ae [b] w w'):Cx w' lv vv ts vs:=
 ⟨let⟨B,ho⟩:=h.tok;⟨B,ho.keep hk (by intro k aK;simp;exact fun e=>fQ ho hb (by decide) k aK e.symm)⟩,let⟨B,ho⟩:=h.var;⟨B,ho.keep hk (by intro k aK;simp;exact fun e=>fQ ho hb (by decide) k aK e.symm)⟩,h.len,h.vk,h.bI⟩
theorem Cx.pB(h:Cx w lv vv ts vs)(hr:Rs w b lv vv fin x)(hk:ae [b] w w'):Cx w' lv vv ts vs:=by
 obtain⟨i,fl,hb⟩:=hr.af;exact h.keep hb hk
theorem Cx.form(h:Cx w lv vv ts vs):∃a cap,lv=.slice a ts.length cap:=by
 obtain⟨B,ho⟩:=h.tok;exact ho.form
theorem Cx.Zt(h:Cx w lv vv ts vs):∃a cap,vv=.slice a vs.length cap:=by
 obtain⟨B,ho⟩:=h.var;exact ho.form
theorem Cx.at(h:Cx w lv vv ts vs){i:Nat}{t:Tok}(ht:ts[i]?=some t):∃g cap,lv=.slice (some ⟨g,0,none⟩) ts.length cap∧w.rangeAt g (0+i*4) (dr t):=by
 obtain⟨B,ho⟩:=h.tok;have hi:=(List.getElem?_eq_some_iff.1 ht).1;have hf:=wy (f:=dr) (k:=4) (fun p _=>Jb p) ht;obtain⟨g,cap,hv,hr⟩:=ho.range (q:=i*4) (cs:=dr t) (by rw[Jb];exact hf) (by omega);rw[Nat.zero_add];exact⟨g,cap,hv,hr⟩
theorem Cx.atV(h:Cx w lv vv ts vs){i:Nat}{y:aJ}(ht:vs[i]?=some y):∃g cap,vv=.slice (some ⟨g,0,none⟩) vs.length cap∧w.rangeAt g (0+i*2) (dR y):=by
 obtain⟨B,ho⟩:=h.var;have hi:=(List.getElem?_eq_some_iff.1 ht).1;have hf:=wy (f:=dR) (k:=2) (fun p _=>rfl) ht;obtain⟨g,cap,hv,hr⟩:=ho.range (q:=i*2) (cs:=dR y) (by exact hf) (by omega);rw[Nat.zero_add];exact⟨g,cap,hv,hr⟩
end
def C6(ts:List Tok)(x:Except bp Nat)(s:List UInt8):Bool:=match x with
 |.ok i=>eg ts i s
 |.error _=>false
def eV(x:Except bp Nat):Bool:=match x with
 |.ok _=>true
 |.error _=>false
theorem ml{w:World}{b fin:Nat}{lv vv:Value}{x:Except bp Nat}(h:Rs w b lv vv fin x):aC prog 82 [.pointer (some ⟨b,0,none⟩)] w fun r w'=>r=.bool (eV x)∧w'=w:=by
 refine aG 9 func82 ?_;cases x with
 |ok i=>
  refine au ?_;refine ai _ (aB rfl (ak.cell h (by rfl))) ?_;refine ye ?_;refine au ?_;exact ay func82 rfl ⟨rfl,rfl⟩
 |error e=>
  obtain⟨he,i,hb⟩:=h;refine au ?_;refine ai _ (aB rfl (ak.cell hb (by rfl))) ?_;refine aL ?_;refine au ?_;exact ay func82 rfl ⟨rfl,rfl⟩
theorem Gp{w:World}{b fin:Nat}{lv vv:Value}{ts:List Tok}{vs:List aJ}{x:Except bp Nat}(hx:Cx w lv vv ts vs)(h:Rs w b lv vv fin x)(s:List UInt8):aC prog 79 [.pointer (some ⟨b,0,none⟩),.string (str s)] w fun r w'=>r=.bool (C6 ts x s)∧ae [] w w':=by
 refine aG 48 func79 ?_;refine au ?_;have bz:ae [] w w.drew:=(ae.refl _ _).drew;obtain⟨av,cv,rfl⟩:=hx.form;cases x with
 |error e=>
  obtain⟨he,i,hb⟩:=h;refine bC (fun w'=>True∧ak w' b (cO (.slice av ts.length cv) vv fin i e) 135) [] bE ?_;have hS:True∧ak w.drew b (cO (.slice av ts.length cv) vv fin i e) 135:=⟨trivial,bz.af hb (by simp)⟩;refine tk 0 ?_;refine dC 1 (ml (x:=.error e) ⟨he,i,hS.2⟩) ?_;rintro r w1⟨rfl,rfl⟩;refine⟨fun _=>hS,?_⟩;unfold eV;refine dp 2 ?_;refine dp 3 ?_;refine dp 4 ?_;refine dp 5 ?_;refine dp 6 ?_;refine dp 7 ?_;refine dp 8 ?_;refine dp 9 ?_;refine dp 10 ?_;refine dp 11 ?_;refine dp 12 ?_;refine dp 13 ?_;refine dp 14 ?_;refine dp 15 ?_;refine dp 16 ?_;refine dp 17 ?_;refine dp 18 ?_;refine dp 19 ?_;refine dp 20 ?_;refine dp 21 ?_;refine dp 22 ?_;refine dp 23 ?_;refine dp 24 ?_;refine dp 25 ?_;refine dp 26 ?_;refine dp 27 ?_;refine dp 28 ?_;refine dp 29 ?_;refine dp 30 ?_;refine dp 31 ?_;refine dp 32 ?_;refine dp 33 ?_;refine dp 34 ?_;refine dp 35 ?_;refine dp 36 ?_;refine dp 37 ?_;refine dp 38 ?_;refine dp 39 ?_;refine dp 40 ?_;refine dp 41 ?_;refine dp 42 ?_;refine dp 43 ?_;refine bm ?_;exact ay func79 rfl ⟨rfl,bz⟩
 | ok i=>
  have hb:ak w b (cO (.slice av ts.length cv) vv fin i (0,0)) 135:=h;by_cases az:i<ts.length
  ·obtain⟨g,cap,e1,hr⟩:=hx.at (List.getElem?_eq_getElem az);injection e1 with e1 _ gA;subst e1 gA;obtain⟨t,ht⟩:∃t,t=ts[i]:=⟨_,rfl⟩;obtain⟨q,hq⟩:∃q,q=t.num:=⟨_,rfl⟩;have et:dr t=dn (t.pos:Nat) t.text q t.val:=by rw[hq];rfl
   rw[←ht,et]at hr;have LK:C6 ts (.ok i) s=(!q&&t.text==s):=by
    show eg ts i s=_;unfold eg;rw[List.getElem?_eq_getElem az,←ht,hq]
   refine bC (fun w'=>w'.rangeAt g (0+i*4) (dn (t.pos:Nat) t.text q t.val)∧ak w' b (cO (.slice (some ⟨g,0,none⟩) ts.length cv) vv fin i (0,0)) 135) [] bE ?_;have hS:w.drew.rangeAt g (0+i*4) (dn (t.pos:Nat) t.text q t.val)∧ak w.drew b (cO (.slice (some ⟨g,0,none⟩) ts.length cv) vv fin i (0,0)) 135:=⟨hr,bz.af hb (by simp)⟩;refine tk 0 ?_;refine dC 1 (ml (x:=.ok i) hS.2) ?_;rintro r w1⟨rfl,rfl⟩;refine⟨fun _=>hS,?_⟩;unfold eV;refine dp 2 ?_;refine dp 3 ?_;refine dp 4 ?_;refine dp 5 ?_;refine dp 6 ?_;refine dp 7 ?_;refine dp 8 ?_;refine dp 9 ?_;refine dp 10 ?_;refine dp 11 ?_;refine dp 12 ?_;refine dp 13 ?_;refine dp 14 ?_;refine dp 15 ?_;refine dp 16 ?_;refine dp 17 ?_;refine dp 18 ?_;refine dp 19 ?_;refine dp 20 ?_;refine dp 21 ?_;refine dp 22 ?_;refine bD 23 _ rfl (fun w=>bJ i rfl az w) ?_;refine tk 24 ?_;refine aI 25 _ rfl (fun w9 aq=>aB rfl (aq.1 2 _ rfl)) hS ?_;cases q with
   |true=>
    refine dp 26 ?_;refine dp 27 ?_;refine dp 28 ?_;refine dp 29 ?_;refine dp 30 ?_;refine dp 31 ?_;refine dp 32 ?_;refine dp 33 ?_;refine dp 34 ?_;refine dp 35 ?_;refine dp 36 ?_;refine dp 37 ?_;refine dp 38 ?_;refine dp 39 ?_;refine dp 40 ?_;refine dp 41 ?_;refine dp 42 ?_;refine dp 43 ?_;refine bm ?_;exact ay func79 rfl ⟨by rw[LK];rfl,bz⟩
   |false=>
    refine dp 26 ?_;refine dp 27 ?_;refine dp 28 ?_;refine dp 29 ?_;refine dp 30 ?_;refine dp 31 ?_;refine dp 32 ?_;refine dp 33 ?_;refine dp 34 ?_;refine dp 35 ?_;refine dp 36 ?_;refine bD 37 _ rfl (fun w=>bJ i rfl az w) ?_;refine tk 38 ?_;refine aI 39 _ rfl (fun w9 aq=>aB rfl (aq.1 1 _ rfl)) hS ?_;refine tk 40 ?_;refine bD 41 _ rfl (fun w=>Gm t.text s (t.text==s) rfl rfl rfl rfl w) ?_;refine tk 42 ?_;refine tk 43 ?_;refine bm ?_;exact ay func79 rfl ⟨by rw[LK];rfl,bz⟩
  ·have LK:C6 ts (.ok i) s=false:=by
    show eg ts i s=_;unfold eg;rw[List.getElem?_eq_none (by omega)]
   refine bC (fun w'=>True∧ak w' b (cO (.slice av ts.length cv) vv fin i (0,0)) 135) [] bE ?_;have hS:True∧ak w.drew b (cO (.slice av ts.length cv) vv fin i (0,0)) 135:=⟨trivial,bz.af hb (by simp)⟩;refine tk 0 ?_;refine dC 1 (ml (x:=.ok i) hS.2) ?_;rintro r w1⟨rfl,rfl⟩;refine⟨fun _=>hS,?_⟩;unfold eV;refine dp 2 ?_;refine dp 3 ?_;refine dp 4 ?_;refine dp 5 ?_;refine dp 6 ?_;refine dp 7 ?_;refine dp 8 ?_;refine dp 9 ?_;refine dp 10 ?_;refine dp 11 ?_;refine dp 12 ?_;refine dp 13 ?_;refine dp 14 ?_;refine dp 15 ?_;refine dp 16 ?_;refine dp 17 ?_;refine dp 18 ?_;refine dp 19 ?_;refine dp 20 ?_;refine dp 21 ?_;refine dp 22 ?_;refine dp 23 ?_;refine dp 24 ?_;refine dp 25 ?_;refine dp 26 ?_;refine dp 27 ?_;refine dp 28 ?_;refine dp 29 ?_;refine dp 30 ?_;refine dp 31 ?_;refine dp 32 ?_;refine dp 33 ?_;refine dp 34 ?_;refine dp 35 ?_;refine dp 36 ?_;refine dp 37 ?_;refine dp 38 ?_;refine dp 39 ?_;refine dp 40 ?_;refine dp 41 ?_;refine dp 42 ?_;refine dp 43 ?_;refine bm ?_;exact ay func79 rfl ⟨by rw[LK],bz⟩
end E
end Go.Proofs.YtoigoojdbpbhoagGreatDoor
