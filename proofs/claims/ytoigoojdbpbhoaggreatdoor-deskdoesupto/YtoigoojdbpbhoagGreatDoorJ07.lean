/- Texts IrG DiskA DiskB DiskC DiskE Sect StoA StoB StoC StoD StoE StoF StoG StoH StoI. -/
import Derived.Test.YtoigoojdbpbhoagGreatDoorJ06
import Derived.Test.YtoigoojdbpbhoagGreatDoorJ00
import Derived.Test.YtoigoojdbpbhoagGreatDoorJ02
namespace Go.Proofs.YtoigoojdbpbhoagGreatDoor
set_option maxRecDepth 20000
set_option maxHeartbeats 4000000
namespace E
open Go.Proofs.Tryz
theorem aj_:((prog.info? 3).bind (·.zero)).map (·.cells)=some [Value.int .i64 0].toArray:=by kernel_rfl
theorem D7:3≠rB:=by decide
theorem D8:3≠dA:=by decide
theorem Ng{P:Program}{T:fV}{w:World}{t b i:Nat}{v:Value}(hT:T.check P=true)(ht:find T.one t=some ())(hc:w.cell? ⟨b,i,none⟩=some v):(loadVar t ⟨b,i,none⟩).run P w=.ok v w:=by
 have hs:=fV.Yz hT ht;unfold BG at hs;cases hu:P.underlying t with
 |none=>simp[hu]at hs
 | some d=>
  have P4:(isAgg t).run P w=.ok false w:=by
   unfold isAgg;rw[Sem.run_bind,run_underlying hu w];cases d<;>simp_all
  simp[loadVar,P4,hc]
theorem Rt.other{C:Kx}{w w':World}{s:Es}{x:Nat}{L:List Value}{e:TypeId}(h:Rt C w s)(hx:C.w0.heap.size≤x)(hb:ak w x L e)(h1:e≠rB)(h2:e≠dA)(hk:ae [x] w w'):Rt C w' s:=by
 obtain⟨u,o,h⟩:=h;refine⟨u,o,h.kp.aO hk hx,hk.af h.bk ?_,h.un,h.rc.keep hk (h.rc.ne hb h2),h.ro.keep hk (h.ro.ne hb h2),h.ap,h.cl,h.le,h.ol⟩;simp only[List.mem_singleton];exact ak.ne h.bk hb h1.symm
section
variable{C:Kx}{w:World}{s:Es}
theorem aij(hC:C.Ok)(hz:cu C.bd≤1000)(sx:Aa C.vs.length C.bd)(h:Rt C w s):aC prog 137 [.pointer (some ⟨C.b,0,none⟩)] w fun r w'=>∃(c:Nat) (s':Es),r=.int .i64 (c:Nat)∧(c,s'.out,s'.cells,s'.n)=nU (uE C.vs C.inp C.fuel C.bd s)∧Rt C w' s'∧Rf w w':=by
 obtain⟨xo,jf,pO,_,jt⟩:=hC.pr;injection pO with pO;have z_:=congrArg Array.toList pO;simp only[List.cons.injEq,and_true]at z_;obtain⟨_,z_⟩:=z_;rw[←z_]at jt;refine aG 15 func137 ?_;refine au ?_;refine aj (bO _ rfl aj_ ?_);intro w1 x2 gi bt ah eO;have h1:=h.aA ah;have MB:C.w0.heap.size≤x2:=by have:=h.kp.size;omega
 refine au ?_;refine Wb (d:=⟨.fn (.func 176) #[.pointer (some ⟨x2,0,none⟩)],#[]⟩) rfl rfl (fun a ha=>?_) ?_
 ·have:=ha.has 3 _ rfl;simp[execOp,resolve,Act.eval,this,Deferred.ofValue]
 refine au ?_;obtain⟨u1,o1,hu1⟩:=h1;refine lB hu1.bk ?_;obtain⟨bq,gV⟩:∃bq,bq=uE C.vs C.inp C.fuel C.bd s:=⟨_,rfl⟩;rw[←gV];unfold uE at gV;refine OY func137 rfl rfl rfl (dF (fst:=[]) (cap:=[]) rfl rfl rfl rfl (by decide+kernel) (End.mono (qJ (KK:=fun r w'=>∃s1,bq=tick C.fuel s1∧Rt C w' s1∧Rf w1 w'∧r=.tuple #[]) (UK hC (cu C.bd+1) (by omega) C.bd (by omega) sx jt ⟨u1,o1,hu1⟩) gV (Rf.refl w1) (fun s1 r w' hX ⟨hr,_,h⟩ _ hR=>⟨s1,hX,h,hR,hr⟩)) ?_ ?_))
 rotate_left
 ·rintro v w4⟨e,hX,rfl,h4,o4⟩;intro ac ha;have jJ:=o4.af eO D7 D8;refine⟨fun h=>(by cases h),.func 176,_,176,[Value.pointer (some ⟨x2,0,none⟩)].toArray,rfl,rfl,?_⟩;refine CallsD.GH (Yb jJ e.1) ?_;rintro en u' w5⟨rfl,rfl,Ic,aE⟩;refine⟨.int .i64 (e.1:Nat),?_,.inl ⟨_,rfl,e.1,e.2,rfl,by rw[hX];rfl,h4.other MB jJ D7 D8 aE,((Rf.bG ah).tr o4).aO aE (by omega)⟩⟩;have i2:=ha.has 2 _ rfl;have l2:(loadVar 3 ⟨x2,0,none⟩).run prog w5=.ok (.int .i64 (e.1:Nat)) w5:=Ng hT rfl (Ic.cell rfl);show(results Tryz.f137 ac.tmps).run _ _=_;simp only[results,show Tryz.f137.results=#[.cell 2 3] from rfl];simp[i2,asAddr,l2]
 rintro r w2⟨s1,bR,h2,pU,rfl⟩;refine au ?_;refine OY func137 rfl rfl rfl (dF (fst:=[]) (cap:=[]) rfl rfl rfl rfl (by decide+kernel) (End.mono (qJ (KK:=fun r w'=>∃s1,bq=.ok s1∧Rt C w' s1∧Rf w1 w'∧r=.tuple #[]) (Jh hC h2) (bR.trans (Pe _)) pU (fun s1 r w' hX ⟨hr,_,h⟩ _ hR=>⟨s1,hX,h,hR,hr⟩)) ?_ ?_))
 rotate_left
 ·rintro v w4⟨e,hX,rfl,h4,o4⟩;intro ac ha;have jJ:=o4.af eO D7 D8;refine⟨fun h=>(by cases h),.func 176,_,176,[Value.pointer (some ⟨x2,0,none⟩)].toArray,rfl,rfl,?_⟩;refine CallsD.GH (Yb jJ e.1) ?_;rintro en u' w5⟨rfl,rfl,Ic,aE⟩;refine⟨.int .i64 (e.1:Nat),?_,.inl ⟨_,rfl,e.1,e.2,rfl,by rw[hX];rfl,h4.other MB jJ D7 D8 aE,((Rf.bG ah).tr o4).aO aE (by omega)⟩⟩;have i2:=ha.has 2 _ rfl;have l2:(loadVar 3 ⟨x2,0,none⟩).run prog w5=.ok (.int .i64 (e.1:Nat)) w5:=Ng hT rfl (Ic.cell rfl);show(results Tryz.f137 ac.tmps).run _ _=_;simp only[results,show Tryz.f137.results=#[.cell 2 3] from rfl];simp[i2,asAddr,l2]
 rintro r w3⟨s3,cF,h3,mI,rfl⟩;have Av:=mI.af eO D7 D8;refine au ?_;refine aj (aH [.int .i64 0] rfl ON Av (by simp) (eK _) ?_);intro w4 cz ax jJ;rw[bs (by rfl)]at jJ;refine au ?_;refine Xz func137 rfl (fun ac ha=>⟨fun h=>(by cases h),.func 176,_,176,[Value.pointer (some ⟨x2,0,none⟩)].toArray,rfl,rfl,?_⟩);refine CallsD.GH (agH w4 x2) ?_;rintro e u' w5⟨rfl,rfl,rfl⟩;refine⟨.int .i64 0,?_,.inl ⟨_,rfl,0,s3,rfl,by rw[cF];rfl,h3.other MB Av D7 D8 ax,((Rf.bG ah).tr mI).aO ax (by omega)⟩⟩;have i2:=ha.has 2 _ rfl;have l2:(loadVar 3 ⟨x2,0,none⟩).run prog w5=.ok (.int .i64 0) w5:=Ng hT rfl (jJ.cell rfl);show(results Tryz.f137 ac.tmps).run _ _=_;simp only[results,show Tryz.f137.results=#[.cell 2 3] from rfl];simp[i2,asAddr,l2]
end
section
variable{P:Program}{f n:Nat}{k:List Item}{K Kp:Value→World→Prop}{σ:Env}{w:World}
theorem FX{fn:Func}{t0 ty t1 t2:Nat}{ad:Addr}{v0 v1 v2:Value}(hf:P.funcs[f]?=some fn)(hr:fn.results=#[.cell t0 ty,.tmp t1,.tmp t2])(h0:look σ t0=some (.pointer (some ad)))(hl:(loadVar ty ad).run P w=.ok v0 w)(h1:look σ t1=some v1)(h2:look σ t2=some v2)
  (hR:K (.tuple #[v0,v1,v2]) w):Rn P f n (.code .ret::k) (oQ K Kp) σ w:=fun a ha hd=>
 JC hf hd (by simp only[results,hr];simp[ha.has t0 _ h0,asAddr,hl,ha.has t1 _ h1,ha.has t2 _ h2]) hR
end
theorem aik(a:Int):prog.built 209 [(1,.int .i64 a)]=some [Value.int .i64 0,.int .i64 a].toArray:=by kernel_rfl
theorem ail(a:Int)(a1 a2 a3 a4:Option Addr)(n1 c1 n2 c2 n3 c3 n4 c4:Nat):prog.built rB [(0,.agg #[.int .i64 0,.int .i64 a]),(1,.agg #[.slice a1 n1 c1,.slice a2 n2 c2]),(2,.slice a3 n3 c3),(3,.slice a4 n4 c4)]=some [Value.int .i64 0,.int .i64 a,.slice a1 n1 c1,.slice a2 n2 c2,.slice a3 n3 c3,.slice a4 n4 c4,.slice none 0 0].toArray:=by kernel_rfl
theorem Jw:prog.built 81 []=some (cI 0 (.slice none 0 0) (.slice none 0 0)).toArray:=by kernel_rfl
theorem agI(c:Int)(a b:Option Addr)(n k m d:Nat):prog.built 81 [(0,.int .i64 c),(1,.slice a n k),(2,.slice b m d)]=some (cI c (.slice a n k) (.slice b m d)).toArray:=by kernel_rfl
theorem al1:PE prog 28 2=true:=by decide+kernel
theorem YU:81≠rB:=by decide
theorem Pf:81≠dA:=by decide
theorem zF(w:World):Nw w (.slice none 0 0):=fun b q n c h=>by cases h
theorem MC(w:World):eS w (.slice none 0 0) []:=⟨none,0,rfl,fun h=>absurd h (by simp)⟩
theorem agJ{F:Nat→Prop}{w:World}{x iv:Value}{vs:List aJ}{body:List ST}{inp:List Int}(fuel:Int)(hp:iN F w x vs body)(hF:In F w)(hi:xB w iv inp)(du:vs.length≤100000)(bw:cu body≤1000)(fF:inp.length≤100000):aC prog 100 [x,iv,.int .i64 fuel] w fun r w'=>(∃ov cv,r=.tuple #[.agg (cI (gv vs body inp fuel).code ov cv).toArray,.int .i64 (gv vs body inp fuel).used,.int .i64 (gv vs body inp fuel).fault]∧xB w' ov (gv vs body inp fuel).out∧eS w' cv (gv vs body inp fuel).cells∧Nw w ov∧Nw w cv)∧ae [] w w':=by
 have su:=hp;obtain⟨vv,bv,rfl,hv,hb⟩:=hp;obtain⟨av,aY,rfl⟩:=hv.form;obtain⟨ab,bh,rfl⟩:=hb.form;obtain⟨⟨ia,gN,rfl,L3⟩,EL⟩:=hi;have EL:=EL _ _ _ rfl;refine aG 56 func100 ?_;refine au ?_;refine aj (bY [.slice av vs.length aY,.slice ab body.length bh] rfl ?_);intro w1 x3 fX bt ah cm;refine au ?_;refine aj (bO _ rfl sG ?_);intro w2 x6 im cE an hZ2;have br:=ah.tr an;have gZ:=an.af cm (by simp);refine au ?_;refine ai (.agg #[.slice av vs.length aY,.slice ab body.length bh]) (bF [.slice av vs.length aY,.slice ab body.length bh] rfl (gZ.range (by rfl))) ?_;refine oC (NQ (su.keep br hF.stays) (hF.keep br) (by omega)) ?_;rintro r w3⟨rfl,aw⟩;have bn:=br.tr aw;have lK:=aw.af gZ (by simp);have CI:=aw.af hZ2 (by simp);have He:w.heap.size≤x6:=by have:=ah.size;omega
 refine au ?_;by_cases cX:¬dq vs body=0
 ·refine ye ?_;refine au ?_;refine ai _ (bL _ rfl rfl Jw w3) ?_;refine au ?_;refine aj (aH (cI 0 (.slice none 0 0) (.slice none 0 0)) rfl rO CI (by simp[cI]) (rN _ _ _ _ _ _ _) ?_);intro w4 cz ax vQ;rw[bs (by rfl)]at vQ;refine au ?_;rw[aid cX];exact FX func100 rfl rfl (cV hT vQ rfl) rfl rfl ⟨⟨.slice none 0 0,.slice none 0 0,rfl,Ko _,MC _,zF _,zF _⟩,bn.aO ax He⟩
 replace cX:dq vs body=0:=by omega
 rw[cX];refine aL ?_;refine au ?_;by_cases an0:¬(inp.length≤40∧0≤fuel∧fuel≤3000)
 ·rw[JN cX an0];by_cases r_:¬inp.length≤40
  ·refine ye ?_;refine au ?_;refine ai _ (bL _ rfl rfl Jw w3) ?_;refine aj (aH (cI 0 (.slice none 0 0) (.slice none 0 0)) rfl rO CI (by simp[cI]) (rN _ _ _ _ _ _ _) ?_);intro w4 cz ax vQ;rw[bs (by rfl)]at vQ;refine au ?_;exact FX func100 rfl rfl (cV hT vQ rfl) rfl rfl ⟨⟨.slice none 0 0,.slice none 0 0,rfl,Ko _,MC _,zF _,zF _⟩,bn.aO ax He⟩
  refine aL ?_;refine au ?_;by_cases Aq:fuel<0
  ·refine ye ?_;refine au ?_;refine ai _ (bL _ rfl rfl Jw w3) ?_;refine aj (aH (cI 0 (.slice none 0 0) (.slice none 0 0)) rfl rO CI (by simp[cI]) (rN _ _ _ _ _ _ _) ?_);intro w4 cz ax vQ;rw[bs (by rfl)]at vQ;refine au ?_;exact FX func100 rfl rfl (cV hT vQ rfl) rfl rfl ⟨⟨.slice none 0 0,.slice none 0 0,rfl,Ko _,MC _,zF _,zF _⟩,bn.aO ax He⟩
  refine aL ?_;refine ye ?_;refine au ?_;refine ai _ (bL _ rfl rfl Jw w3) ?_;refine aj (aH (cI 0 (.slice none 0 0) (.slice none 0 0)) rfl rO CI (by simp[cI]) (rN _ _ _ _ _ _ _) ?_);intro w4 cz ax vQ;rw[bs (by rfl)]at vQ;refine au ?_;exact FX func100 rfl rfl (cV hT vQ rfl) rfl rfl ⟨⟨.slice none 0 0,.slice none 0 0,rfl,Ko _,MC _,zF _,zF _⟩,bn.aO ax He⟩
 have hon:inp.length≤40∧0≤fuel∧fuel≤3000:=by omega
 obtain⟨r_,Aq,yV⟩:=hon;rw[X6 cX r_ Aq yV];obtain⟨fu,rfl⟩:∃fu:Nat,fuel=(fu:Nat):=⟨fuel.toNat,by omega⟩;rw[Int.toNat_natCast];obtain⟨hv8,cL,kk,jQ⟩:=FB cX;obtain⟨QO,QL⟩:=Nr cL;have QL:=QL (by omega);have ark:=TY QO;have sx:=JP body jQ;have ak_:ua vs:=⟨by omega,fun x hx=>by have:=QO x hx;omega⟩;have ala:cellOf vs (vs.length:Nat)=(((aT vs).toNat:Nat):Int):=by
  unfold cellOf;rw[Int.toNat_natCast,List.take_length];omega
 refine aL ?_;refine aL ?_;refine aL ?_;refine au ?_;refine bC (fun w'=>ae [] w3 w') [] bE ?_;have hS:ae [] w3 w3.drew:=(ae.refl _ _).drew;generalize w3.drew=w4 at*;refine tk 0 ?_;refine bD 1 _ rfl (fun w=>bL _ rfl rfl (aik (fu:Nat)) w) ?_;refine aI 2 (.agg #[.slice av vs.length aY,.slice ab body.length bh]) rfl (fun w9 aq=>bF [.slice av vs.length aY,.slice ab body.length bh] rfl ((aq.af lK (by simp)).range (by rfl))) hS ?_;refine tk 3 ?_;refine aI 4 (.agg #[.slice av vs.length aY,.slice ab body.length bh]) rfl (fun w9 aq=>bF [.slice av vs.length aY,.slice ab body.length bh] rfl ((aq.af lK (by simp)).range (by rfl))) hS ?_;refine dC 5 (Vq (su.keep (bn.tr hS) hF.stays) (hF.keep (bn.tr hS)) ak_) ?_;rintro r w5⟨rfl,aE⟩;rw[ala];refine⟨fun _=>hS.tr aE,?_⟩;refine a8 6 rfl (Ux 2 (aT vs).toNat rfl rfl rfl al1 (by omega) ?_);intro w6 g hg iI aD hG6;refine⟨fun _=>(hS.tr aE).tr aD,?_⟩;refine bD 7 _ rfl (fun w=>bL _ rfl rfl (ail (fu:Nat) av ab ia (some ⟨g,0,none⟩) vs.length aY body.length bh inp.length gN (aT vs).toNat (aT vs).toNat) w) ?_;refine a8 8 rfl (bY [.int .i64 0,.int .i64 (fu:Nat),.slice av vs.length aY,.slice ab body.length bh,.slice ia inp.length gN,.slice (some ⟨g,0,none⟩) (aT vs).toNat (aT vs).toNat,.slice none 0 0] rfl ?_);intro w7 b gI jr aN AG;have zZ:=((hS.tr aE).tr aD).tr aN;refine⟨fun _=>zZ,?_⟩;refine tk 9 ?_;refine bm ?_;have lF:=bn.tr zZ;have Fa:w.heap.size≤g:=by have:=(bn.tr (hS.tr aE)).size;omega
 have o6:w.heap.size≤b:=by have:=(bn.tr ((hS.tr aE).tr aD)).size;omega
 have hG7:=aN.af hG6 (by simp);have hZ7:=zZ.af CI (by simp);obtain⟨C,CV⟩:∃C:Kx,C=⟨vs,body,F,inp,fu,w,b,.slice av vs.length aY,.slice ab body.length bh,.slice (some ⟨g,0,none⟩) (aT vs).toNat (aT vs).toNat⟩:=⟨_,rfl⟩;have hC:C.Ok:=by
  rw[CV];exact⟨su,hF,QO,hv8,by show aT vs≤48;omega,by show fu≤3000;omega,r_,o6⟩
 have h7:Rt C w7 (qC (aT vs).toNat):=by
  rw[CV];refine⟨.slice ia inp.length gN,.slice none 0 0,lF,AG,⟨ia,gN,rfl,EL,Nat.zero_le _,fun h0=>?_⟩,⟨by rw[Di];simp[qC],.inr ⟨g,(aT vs).toNat,List.replicate (aT vs).toNat (.int .i64 0),by simp[qC],Fa,hG7,by simp[qC],by simp,?_⟩⟩,bl.nil _ _,fun k _ hm=>by simp[aW,Value.ownBlock]at hm,by simp[qC];omega,Nat.zero_le _,Nat.le_refl _⟩
  ·exact L3 h0
  ·simp[qC,dZ]
 have aal:=aij hC (by rw[CV];exact bw) (by rw[CV];exact sx) h7;have hCb:C.b=b:=by rw[CV]
 have hCX:uE C.vs C.inp C.fuel C.bd (qC (aT vs).toNat)=nN vs body inp fu:=by rw[CV];rfl
 rw[hCb,hCX]at aal;refine au ?_;refine aj (aV (fst:=[]) (cap:=[]) rfl (aal.mono ?_));rintro r w8⟨c,s8,rfl,r6,⟨u8,o8,h8⟩,tJ⟩;have MD:=tJ.af hZ7 YU Pf;rw[←r6];have Iy:=h8.rc;have Fb:=h8.ro;have Fc:=h8.bk;have Sn:=h8.kp;have h8l:=h8.cl;rw[CV]at Iy Fb Fc Sn h8l
 dsimp only at Iy Fb Fc Sn h8l
 obtain⟨oa,oc,rfl⟩:=Fb.form;have CO:x6≠b:=ak.ne MD Fc YU;refine au ?_;refine bC (fun w'=>ae [x6] w8 w') [] bE ?_;have Iz:ae [x6] w8 w8.drew:=(ae.refl _ _).drew;have pW:ae [] w8 w8.drew:=(ae.refl _ _).drew;generalize w8.drew=w9 at*;refine tk 0 ?_;refine tk 1 ?_;refine tk 2 ?_;refine tk 3 ?_;refine aI 4 (.slice oa s8.out.length oc) rfl (fun w9 aq=>aB rfl ((aq.af Fc (by simp;exact CO.symm)).cell rfl)) Iz ?_;refine tk 5 ?_;refine tk 6 ?_;refine tk 7 ?_;refine aI 8 (.slice (some ⟨g,0,none⟩) (aT vs).toNat (aT vs).toNat) rfl (fun w9 aq=>aB rfl ((aq.af Fc (by simp;exact CO.symm)).cell rfl)) Iz ?_;refine bD 9 _ rfl (fun w=>bL _ rfl rfl (agI (c:Nat) oa (some ⟨g,0,none⟩) s8.out.length oc (aT vs).toNat (aT vs).toNat) w) ?_;refine tk 10 ?_;refine tk 11 ?_;refine tk 12 ?_;refine tk 13 ?_;refine aI 14 (.int .i64 (s8.n:Nat)) rfl (fun w9 aq=>aB rfl ((aq.af Fc (by simp;exact CO.symm)).cell rfl)) Iz ?_;have hZ9:=pW.af MD (by simp);refine a8 15 rfl (aH (cI (c:Nat) (.slice oa s8.out.length oc) (.slice (some ⟨g,0,none⟩) (aT vs).toNat (aT vs).toNat)) rfl rO hZ9 (by simp[cI]) (rN _ _ _ _ _ _ _) ?_);intro bM zY bV aam;rw[bs (by rfl)]at aam;refine⟨fun _=>Iz.tr bV,?_⟩;refine tk 16 ?_;refine tk 17 ?_;refine bm ?_;have aS:ae [x6] w8 bM:=Iz.tr bV;have aan:=Fb.keep aS (Fb.ne MD Pf);have an1:=Iy.keep aS (Iy.ne MD Pf);have yv:=aan.cap;refine au ?_;refine FX func100 rfl rfl (cV hT aam rfl) rfl rfl ⟨⟨.slice oa s8.out.length oc,.slice (some ⟨g,0,none⟩) (aT vs).toNat (aT vs).toNat,rfl,⟨aan.nQ,fun a n cap he=>?_⟩,an1.nQ,fun k q n c he _=>?_,fun k q n c he _=>?_⟩,Sn.aO aS He⟩
 ·injection he with e1 e2 e3;rw[←e2,←e3];exact yv
 ·exact(Fb.lt k (by rw[he];simp[aW,Value.ownBlock])).1
 ·exact(Iy.lt k (by rw[he];simp[aW,Value.ownBlock])).1
theorem idC:IdC:=⟨fun fuel hp hF hi hv hs hl=>agJ fuel hp hF hi hv hs hl⟩
abbrev Wr:=Nat×List Int
def oO(p:Wr):List Value:=.int .i64 p.1::ints p.2
def Gu(L:List Wr):List Value:=L.flatMap oO
def hasB(i:Int):Bool:=decide (0≤i)&&decide (i<34)
theorem Oc(i:Int)(w:World):aC prog 259 [.int .i64 i] w fun v w'=>v=.bool (hasB i)∧w'=w:=by
 refine aG 9 func259 ?_;refine au ?_;by_cases h0:0≤i
 ·refine ai (.bool true) (bP .i64 i 0 _ rfl (by simp[bU,h0]) w) ?_;refine au ?_;refine ai (.bool (decide (i<34))) (bP .i64 i 34 _ rfl (by simp[bU]) w) ?_;refine au ?_;refine ay func259 rfl ⟨?_,rfl⟩;simp[hasB,h0]
 ·refine ai (.bool false) (bP .i64 i 0 _ rfl (by simp[bU,h0]) w) ?_;refine au ?_;refine ay func259 rfl ⟨?_,rfl⟩;simp[hasB,h0]
structure fL(B:Nat)(w:World)(d:Nat)(S:List Int)(L:List Wr)(wv:Value):Prop where
 af:ak w d (ints S++[wv]) 258
 owns:w.ownsRow B 320 9 wv L.length (Gu L)
 ne:wv.ownBlock≠some d
 len:S.length=272
 base:B≤d
 wf:∀p∈L,p.1<34∧p.2.length=8
def dh(d:Nat)(wv:Value):List Nat:=d::wv.ownBlock.toList
theorem fL.keep{B:Nat}{w w':World}{d:Nat}{S:List Int}{L:List Wr}{wv:Value}{fp:List Nat}(h:fL B w d S L wv)(hk:ae fp w w')(hn:∀k∈dh d wv,k∉fp):fL B w' d S L wv:=
 ⟨hk.af h.af (hn d (by simp[dh])),hk.owns h.owns fun k e=>hn k (by simp[dh,e]),h.ne,h.len,h.base,h.wf⟩
theorem fL.lt{B:Nat}{w:World}{d:Nat}{S:List Int}{L:List Wr}{wv:Value}(h:fL B w d S L wv):∀k∈dh d wv,B≤k∧k<w.heap.size:=by
 intro k hk;simp only[dh,List.mem_cons,Option.mem_toList]at hk;rcases hk with rfl|hk
 ·exact⟨h.base,h.af.lt⟩
 ·exact h.owns.lt k hk
theorem ahE:(prog.built 258 [])=some (ints (List.replicate 272 0)++[Value.slice none 0 0]).toArray:=by kernel_rfl
theorem XN(w:World):aC prog 133 [] w fun v w'=>v=.pointer (some ⟨w.heap.size,0,none⟩)∧fL w.heap.size w' w.heap.size (List.replicate 272 0) [] (.slice none 0 0)∧ae [] w w':=by
 refine aG 3 func133 ?_;refine au ?_;refine ai _ (bL (ints (List.replicate 272 0)++[Value.slice none 0 0]) rfl rfl ahE w) ?_;refine aj (qG _ rfl rfl rfl ?_);refine au ?_;refine ay func133 rfl ⟨rfl,⟨ak.new w _ _,World.ownsRow_nil _ _ _ _,by simp[Value.ownBlock],List.length_replicate,Nat.le_refl _,by simp⟩,(ae.refl _ _).alloc _⟩
theorem aeV(i:Int)(w:World):aC prog 290 [.int .i64 i] w fun v w'=>v=.bool true∧w'=w:=by
 refine aG 3 func290 ?_;refine au ?_;exact ay func290 rfl ⟨rfl,rfl⟩
theorem ad7(i:Int){ws:List Int}(h:ws.length=8):prog.built 320 [(0,Value.int .i64 i),(1,Value.agg (ints ws).toArray)]=some (Value.int .i64 i::ints ws).toArray:=by
 obtain⟨a,b,c,d,e,f,g,j,rfl⟩:=wF h
 kernel_rfl
theorem ad8(i:Int){ws:List Int}(h:ws.length=8):kE prog 256 1 [(0,Value.agg (Value.int .i64 i::ints ws).toArray)]=some (320,(Value.int .i64 i::ints ws).toArray):=by
 obtain⟨a,b,c,d,e,f,g,j,rfl⟩:=wF h
 kernel_rfl
theorem T0{S:List Int}(h:S.length=272)(u v:Value):b_ (ints S++[u]) (0+272) [v]=ints S++[v]:=by
 have hl:(ints S).length=272:=by rw[bQ,h]
 simp[b_,hl]
theorem ad9(L:List Wr)(p:Wr):Gu (L++[p])=Gu L++oO p:=by simp[Gu]
theorem agj{B:Nat}{w:World}{d:Nat}{S:List Int}{L:List Wr}{wv:Value}(h:fL B w d S L wv)(i:Int){ws:List Int}(hw:ws.length=8)(hL:L.length<1000000):aC prog 289 [.pointer (some ⟨d,0,none⟩),.int .i64 i,.agg (ints ws).toArray] w fun v w'=>v=.bool (hasB i)∧∃lJ,fL B w' d S (if hasB i then L++[(i.toNat,ws)]else L) lJ∧ae (dh d wv) w w'∧∀k∈dh d lJ,k∈dh d wv∨w.heap.size≤k:=by
 refine aG 22 func289 ?_;refine au ?_;refine aj (qG (ints ws) rfl rfl rfl ?_);refine au ?_;refine aj (aV rfl ((Oc i _).mono ?_));rintro v w1⟨rfl,rfl⟩;have ah:ae [] w (w.alloc (.cells (ints ws).toArray 254)):=(ae.refl _ _).alloc _;cases hb:hasB i with
 |false=>
  refine au ?_;exact ay func289 rfl ⟨rfl,wv,h.keep ah (by simp),ah.bG,fun k hk=>.inl hk⟩
 | true=>
  refine au ?_;have RU:ak (w.alloc (.cells (ints ws).toArray 254)) w.heap.size (ints ws) 254:=ak.new _ _ _;have h1:fL B (w.alloc (.cells (ints ws).toArray 254)) d S L wv:=h.keep ah (by simp);have az:=h.lt;have bw:(w.alloc (.cells (ints ws).toArray 254)).heap.size=w.heap.size+1:=World.size_alloc _ _;generalize(w.alloc (.cells (ints ws).toArray 254))=w1 at*;have js:d∉wv.ownBlock.toList:=by simpa using h.ne
  have cJ:w.heap.size∉wv.ownBlock.toList:=fun hm=>by
   have:=(az w.heap.size (by simp only[dh,List.mem_cons];exact .inr hm)).2;omega
  have hS:ae wv.ownBlock.toList w1 w1.drew:=(ae.refl _ _).drew;refine bC (fun w'=>ae wv.ownBlock.toList w1 w') [10,11,12] bE ?_;refine tk 0 ?_;refine tk 1 ?_;refine tk 2 ?_;refine tk 3 ?_;refine aI 4 wv rfl (fun w' hk=>aB rfl ((hk.af h1.af js).cell (by simp[h1.len,bQ]))) hS ?_;refine tk 5 ?_;refine aI 6 (.agg (ints ws).toArray) rfl (fun w' hk=>h_ (ints ws) hT rfl rfl (by simp[bQ,hw];rfl) ((hk.af RU cJ).range (by simp))) hS ?_;refine aI 7 (.agg (.int .i64 i::ints ws).toArray) rfl (fun w' _=>bL _ rfl rfl (ad7 i hw) w') hS ?_;refine a8 8 rfl (Da _ _ rfl rfl (ad8 i hw) ⟨fun _=>hS.alloc _,?_⟩);have l9:ae wv.ownBlock.toList w1 (w1.drew.alloc (.cells (.int .i64 i::ints ws).toArray 320)):=hS.alloc _;have RV:ae [] w1 (w1.drew.alloc (.cells (.int .i64 i::ints ws).toArray 320)):=((ae.refl _ _).drew).alloc _;have kZ:ak (w1.drew.alloc (.cells (.int .i64 i::ints ws).toArray 320)) w1.heap.size (.int .i64 i::ints ws) 320:=ak.new w1.drew _ _;have sZ:(w1.drew.alloc (.cells (.int .i64 i::ints ws).toArray 320)).heap.size=w1.heap.size+1:=World.size_alloc _ _;refine a8 9 rfl (Na B 320 9 72 (Gu L) (.int .i64 i::ints ws) rfl rfl rfl (by decide+kernel) (by decide) (RV.owns h1.owns (by simp)) (kZ.range (by simp))
   (by simp[bQ,hw]) (by intro u hu;rcases List.mem_cons.1 hu with rfl|hu;rfl;exact k6 ws u hu) (by decide) (by unfold maxLen;omega) (by omega) (by have:=h.base;have:=h.af.lt;omega) ?_)
  intro g cap w3 bW PG eJ Z0;have kv:ae wv.ownBlock.toList w1 w3:=l9.grown PG fun k e=>.inl (by simp[e]);refine⟨fun _=>kv,?_⟩;refine afK (fun _=>True) [] (by decide+kernel) ?_;have hTr:True:=trivial;refine tk 10 ?_;refine tk 11 ?_;have aQ:=kv.af h1.af js;refine a8 12 rfl (iL _ rfl rfl rfl rfl (by kernel_rfl) aQ (by simp[bQ,h1.len]) (by simp;rfl) ⟨fun _=>trivial,?_⟩);rw[T0 h1.len];refine bm ?_;refine au ?_;have eT:g≠d:=fun e=>by
   rcases eJ with eJ|eJ
   ·exact h.ne (e▸eJ)
   ·have:=h.af.lt;omega
  have hKw:ae (dh d wv) w w3:=(ah.bG).tr (kv.mono fun k hk=>.inl (by simp only[dh,List.mem_cons];exact .inr hk));refine ay func289 rfl ⟨rfl,.slice (some ⟨g,0,none⟩) (L.length+1) cap,⟨aQ.set _,?_,?_,h.len,h.base,?_⟩,hKw.setRow d _ (.inl (by simp[dh])),?_⟩
  ·simp only[if_true,List.length_append,List.length_singleton,ad9];have hi:(i.toNat:Int)=i:=by
    have:=hb;simp[hasB]at this;omega
   have hc:oO (i.toNat,ws)=.int .i64 i::ints ws:=by simp[oO,hi]
   rw[hc];exact ae.owns ((ae.refl [d] w3).setRow d _ (.inl (by simp))) bW fun k e=>by
    simp only[Value.ownBlock,Option.some.injEq]at e;simp only[List.mem_singleton];omega
  ·simp only[Value.ownBlock,ne_eq,Option.some.injEq];exact eT
  ·intro p hp;simp only[if_true,List.mem_append,List.mem_singleton]at hp;rcases hp with hp|rfl
   ·exact h.wf p hp
   ·have:=hb;simp[hasB]at this;exact⟨by show i.toNat<34;omega,hw⟩
  ·intro k hk;simp only[dh,Value.ownBlock,Option.toList_some,List.mem_cons,List.not_mem_nil,or_false]at hk;rcases hk with rfl|rfl
   ·exact .inl (by simp[dh])
   ·rcases eJ with eJ|eJ
    ·exact .inl (by simp[dh,eJ])
    ·exact .inr (by omega)
def D4(mask:Int)(i:Nat):Bool:=IntKind.u64.wrap (BitVec.ofInt 64 (mask.fdiv (2^(i%64)))&&&BitVec.ofInt 64 1).toNat==1
theorem aeW{w:World}{c:Nat}{mask:Int}{e:TypeId}(hc:ak w c [.int .u64 mask] e)(i:Nat):aC prog 213 [.int .i64 i,.pointer (some ⟨c,0,none⟩)] w fun v w'=>v=.bool (D4 mask i)∧w'=w:=by
 refine aG 10 func213 ?_;refine au ?_;refine ai (.int .u64 mask) (aB rfl (hc.cell rfl)) ?_;refine au ?_;refine ai (.int .i64 ((i%64:Nat):Int)) (bP .i64 i 64 _ rfl (by simp[bU];rfl) w) ?_;refine ai _ (ajj .u64 .i64 mask ((i%64:Nat):Int) (mask.fdiv (2^(i%64))) rfl rfl rfl (by omega) (by
  rw[Int.toNat_natCast,show IntKind.u64.bits=64 from rfl,Nat.min_eq_left (by omega)]) w) ?_
 refine ai _ (bP .u64 _ 1 _ rfl rfl w) ?_;refine ai _ (bP .u64 _ 1 _ rfl rfl w) ?_;refine au ?_;exact ay func213 rfl ⟨rfl,rfl⟩
theorem Dd{p:Wr}(h:p.2.length=8):(oO p).length=9:=by simp[oO,bQ,h]
theorem fL.at{B:Nat}{w:World}{d:Nat}{S:List Int}{L:List Wr}{wv:Value}(h:fL B w d S L wv){j:Nat}{p:Wr}(hp:L[j]?=some p):∃g cap,wv=.slice (some ⟨g,0,none⟩) L.length cap∧w.rangeAt g (0+j*9) (oO p):=by
 have az:j<L.length:=(List.getElem?_eq_some_iff.1 hp).1;have hm:p∈L:=List.mem_of_getElem? hp;rcases h.owns.2 with⟨_,h2⟩|⟨g,cap,cur,hv,_⟩
 ·omega
 ·refine⟨g,cap,hv,?_⟩;have ho:=h.owns;rw[hv]at ho;refine Ut ho ?_;rw[Dd (h.wf p hm).2,Nat.zero_add];exact wy (fun q hq=>Dd (h.wf q hq).2) hp
theorem aeX:((prog.info? 320).bind (·.zero)).map (·.cells)=some (oO (0,List.replicate 8 0)).toArray:=by kernel_rfl
theorem wj:((prog.info? 254).bind (·.zero)).map (·.cells)=some (ints (List.replicate 8 0)).toArray:=by kernel_rfl
theorem TF:prog.built 254 []=some (ints (List.replicate 8 0)).toArray:=by kernel_rfl
theorem nG{L vs:List Value}(h:vs.length=L.length):b_ L 0 vs=vs:=by
 simp[b_,h]
theorem agk(p:Wr):∀u∈oO p,u.oneCell'=true:=by
 intro u hu;rcases List.mem_cons.1 hu with rfl|hu
 ·rfl
 ·exact k6 p.2 u hu
def mc(S:List Int)(p:Wr):List Int:=S.take (p.1*8)++p.2++S.drop (p.1*8+8)
theorem Dj{S:List Int}{p:Wr}(hS:S.length=272)(hp:p.1<34∧p.2.length=8):(mc S p).length=272:=by
 simp[mc,hS,hp.2];omega
def ry(stays:Nat→Bool)(L:List Wr)(j:Nat)(S:List Int):List Int:=((L.take j).zipIdx).foldl (fun S q=>if stays q.2 then mc S q.1 else S) S
theorem Od(stays:Nat→Bool)(L:List Wr)(S:List Int):ry stays L 0 S=S:=by simp[ry]
theorem JI(stays:Nat→Bool){L:List Wr}{j:Nat}{p:Wr}(hp:L[j]?=some p)(S:List Int):ry stays L (j+1) S=if stays j then mc (ry stays L j S) p else ry stays L j S:=by
 have az:j<L.length:=(List.getElem?_eq_some_iff.1 hp).1;have hj:L[j]=p:=(List.getElem?_eq_some_iff.1 hp).2;unfold ry;rw[List.take_succ_eq_append_getElem az,List.zipIdx_append,List.foldl_append,hj];simp[Nat.min_eq_left (Nat.le_of_lt az)]
theorem Je{stays:Nat→Bool}{L:List Wr}(hL:∀p∈L,p.1<34∧p.2.length=8){S:List Int}(hS:S.length=272):∀j,j≤L.length→(ry stays L j S).length=272
 |0,_=>by rw[Od,hS]
 |j+1,h=>by
  have hp:L[j]?=some L[j]:=List.getElem?_eq_getElem h;rw[JI stays hp];split
  ·exact Dj (Je hL hS j (by omega)) (hL _ (List.getElem_mem h))
  ·exact Je hL hS j (by omega)
def settled(stays:Nat→Bool)(L:List Wr)(S:List Int):List Int:=ry stays L L.length S
theorem aeY{S:List Int}(hS:S.length=272)(u:Value){p:Wr}(hp:p.1<34∧p.2.length=8):b_ (ints S++[u]) (0+p.1*8) (ints p.2)=ints (mc S p)++[u]:=by
 have e1:(ints S++[u]).take (0+p.1*8)=ints (S.take (p.1*8)):=by
  rw[Nat.zero_add,List.take_append_of_le_length (by rw[bQ];omega)];simp[ints,List.map_take]
 have e2:(ints S++[u]).drop (0+p.1*8+(ints p.2).length)=ints (S.drop (p.1*8+8))++[u]:=by
  rw[Nat.zero_add,bQ,hp.2,List.drop_append_of_le_length (by rw[bQ];omega)];simp[ints,List.map_drop]
 rw[b_,e1,e2,mc];simp[ints]
theorem UE{B:Nat}{w:World}{d:Nat}{S:List Int}{L:List Wr}{wv:Value}(h:fL B w d S L wv)(hL:L.length<1000000)(stays:Nat→Bool)(g:Nat)(cap:List Value)(hg:pd prog g=true) (Qh:∀i,i<L.length→∀w1,ae [d] w w1→aC prog g (.int .i64 (i:Nat)::cap) w1 fun v w'=>v=.bool (stays i)∧ae [] w1 w'):aC prog 212 [.pointer (some ⟨d,0,none⟩),.func (.func g) #[] cap.toArray] w fun v w'=> v=.tuple #[]∧fL B w' d (settled stays L S) [] (.slice none 0 0)∧ae [d] w w':=by
 refine aG 31 func212 ?_;refine au ?_;refine ai wv (aB rfl (h.af.cell (by simp[h.len,bQ]))) ?_;have hv:∃a cap,wv=.slice a L.length cap:=by
  rcases h.owns.2 with⟨h1,h2⟩|⟨g,cap,cur,h1,_⟩
  ·exact⟨none,0,by rw[h1,h2]⟩
  ·exact⟨_,cap,h1⟩
 obtain⟨wa,arH,y4⟩:=hv;refine ai (.int .i64 L.length) (Bf hT (by subst y4;rfl) w) ?_;refine au ?_;refine cP (fun m σ w'=>∃j,m=L.length-j∧j≤L.length∧σ=[(0,.pointer (some ⟨d,0,none⟩)),(1,.func (.func g) #[] cap.toArray),(9,wv),(10,.int .i64 L.length),(11,.int .i64 (j:Nat))]∧fL B w' d (ry stays L j S) L wv∧ae [d] w w')
  (L.length-0) _ ?_ ⟨0,rfl,Nat.zero_le _,rfl,by rw[Od];exact h,ae.refl _ _⟩ ?_
 ·exact⟨rfl,rfl,rfl,rfl,rfl,trivial⟩
 rintro m σ w2 ih⟨j,hm,hj,rfl,h2,an⟩;refine au ?_;rcases Nat.lt_or_ge j L.length with az|ij
 ·refine ai (.bool true) (bP .i64 _ _ _ rfl (by simp[bU,az]) w2) ?_;refine au ?_;obtain⟨p,hp⟩:∃p,L[j]?=some p:=⟨L[j],List.getElem?_eq_getElem az⟩;obtain⟨gb,sU,n8,yh⟩:=h2.at hp;have CE:p∈L:=List.mem_of_getElem? hp;have Ay:=h.wf p CE;refine ai _ (A7 j hT rfl (by rw[n8];rfl) rfl rfl rfl az w2) ?_;refine ai (.agg (oO p).toArray) (h_ _ hT rfl rfl (by rw[Dd Ay.2];rfl) yh) ?_;refine aj (nD _ rfl aeX ?_);have aw:ae [] w2 (w2.alloc (.cells (oO (0,List.replicate 8 0)).toArray 320)):=(ae.refl _ _).alloc _;have fX:ak (w2.alloc (.cells (oO (0,List.replicate 8 0)).toArray 320)) w2.heap.size (oO (0,List.replicate 8 0)) 320:=ak.new _ _ _;generalize(w2.alloc (.cells (oO (0,List.replicate 8 0)).toArray 320))=w3 at*;refine au ?_;refine aj (iL _ rfl rfl rfl rfl (by rw[Dd Ay.2];decide+kernel) fX (by rw[Dd Ay.2];decide) (agk _) ?_);rw[nG (by rw[Dd Ay.2];rfl)];have ax:ae [] w2 (w3.setRow w2.heap.size (oO p).toArray):=aw.setRow _ _ (.inr (Nat.le_refl _));have cy:=fX.set (oO p);generalize(w3.setRow w2.heap.size (oO p).toArray)=w4 at*;refine au ?_;refine aj (rK rfl rfl rfl rfl hg ((Qh j az w4 (an.dt ax)).mono ?_));rintro v w5⟨rfl,aE⟩;have yw:ae [] w2 w5:=ax.dt aE;have h5:=h2.keep yw (by simp);have gw:=aE.af cy (by simp);have xx:w2.heap.size≠d:=by have:=h2.af.lt;omega
  cases hs:stays j with
  |false=>
   refine au ?_;refine ai (.int .i64 ((j+1:Nat):Int)) (bP .i64 j 1 _ rfl (by simp only[bU];rw[wrap_i64 (by omega) (by omega)];rfl) w5) ?_;refine au ?_;refine bj ?_ (ih (L.length-(j+1)) _ w5 (by omega) ⟨j+1,rfl,az,rfl,by rw[JI stays hp,hs];exact h5,an.dt yw⟩);exact⟨rfl,rfl,rfl,rfl,rfl,trivial⟩
  | true=>
   refine au ?_;have hS:ae [d] w5 w5.drew:=(ae.refl _ _).drew;have hlen:(ints p.2).length=8:=by rw[bQ,Ay.2]
   have H3:w2.heap.size∉[d]:=by simpa using xx
   refine bC (fun w'=>ae [d] w5 w') [] bE ?_;refine tk 0 ?_;refine tk 1 ?_;refine aI 2 (.int .i64 p.1) rfl (fun w' hk=>aB rfl ((hk.af gw H3).cell rfl)) hS ?_;refine tk 3 ?_;refine aI 4 (.agg (ints p.2).toArray) rfl (fun w' hk=>h_ _ hT rfl rfl (by rw[hlen];rfl) ((hk.af gw H3).range (by simp[oO]))) hS ?_;refine tk 5 ?_;refine tk 6 ?_;refine aI 7 _ rfl (fun w' _=>nC p.1 hT rfl rfl rfl rfl rfl Ay.1 w') hS ?_;refine a8 8 rfl (iL _ rfl rfl rfl rfl (by rw[hlen];decide+kernel) h5.af.drew (by rw[hlen,List.length_append,bQ,h5.len];simp;omega) (k6 _) ⟨fun _=>hS.setRow _ _ (.inl (by simp)),?_⟩);rw[Nat.add_zero,aeY h5.len wv Ay];refine bm ?_;have uA:=h5.af.drew.set (ints (mc (ry stays L j S) p)++[wv]);have bz:ae [d] w5 (w5.drew.setRow d (ints (mc (ry stays L j S) p)++[wv]).toArray):=hS.setRow _ _ (.inl (by simp));generalize(w5.drew.setRow d (ints (mc (ry stays L j S) p)++[wv]).toArray)=w6 at*;refine au ?_;refine ai (.int .i64 ((j+1:Nat):Int)) (bP .i64 j 1 _ rfl (by simp only[bU];rw[wrap_i64 (by omega) (by omega)];rfl) w6) ?_;refine au ?_;refine bj ?_ (ih (L.length-(j+1)) _ w6 (by omega) ⟨j+1,rfl,az,rfl,?_,(an.dt yw).tr bz⟩)
   ·exact⟨rfl,rfl,rfl,rfl,rfl,trivial⟩
   ·rw[JI stays hp,hs];exact⟨uA,bz.owns h5.owns fun k e=>by
     simp only[List.mem_singleton];intro e2;exact h.ne (e2▸e),h.ne,Dj h5.len Ay,h.base,h.wf⟩
 ·have H4:j=L.length:=by omega
  subst H4;refine ai (.bool false) (bP .i64 _ _ _ rfl (by simp[bU]) w2) ?_;refine au ?_;refine aj (iL _ rfl rfl rfl rfl (by kernel_rfl) h2.af (by simp[bQ,h2.len]) (by simp;rfl) ?_);rw[T0 h2.len];refine au ?_;exact bK func212 rfl ⟨rfl,⟨h2.af.set _,World.ownsRow_nil _ _ _ _,by simp[Value.ownBlock],h2.len,h.base,by simp⟩,an.setRow _ _ (.inl (by simp))⟩
theorem agl{B:Nat}{w:World}{d:Nat}{S:List Int}{L:List Wr}{wv:Value}(h:fL B w d S L wv)(hL:L.length<1000000):aC prog 287 [.pointer (some ⟨d,0,none⟩)] w fun v w'=>v=.tuple #[]∧fL B w' d (settled (fun _=>true) L S) [] (.slice none 0 0)∧ae [d] w w':=by
 refine aG 4 func287 ?_;refine au ?_;refine aj (aV rfl ((UE h hL (fun _=>true) 290 [] (by decide+kernel) (fun i _ w1 _=>(aeV i w1).mono fun v w' hv=>⟨hv.1,hv.2▸ae.refl _ _⟩)).mono ?_));rintro v w1⟨rfl,h1,hk⟩;refine au ?_;exact bK func287 rfl ⟨rfl,h1,hk⟩
theorem Vr{B:Nat}{w:World}{d:Nat}{S:List Int}{L:List Wr}{wv:Value}(h:fL B w d S L wv)(hL:L.length<1000000)(mask:Int):aC prog 182 [.pointer (some ⟨d,0,none⟩),.int .u64 mask] w fun v w'=>v=.tuple #[]∧fL B w' d (settled (D4 mask) L S) [] (.slice none 0 0)∧ae [d] w w':=by
 refine aG 7 func182 ?_;refine au ?_;refine aj (qG [.int .u64 mask] rfl rfl rfl ?_);have ah:ae [] w (w.alloc (.cells [Value.int .u64 mask].toArray 86)):=(ae.refl _ _).alloc _;have hc:ak (w.alloc (.cells [Value.int .u64 mask].toArray 86)) w.heap.size [.int .u64 mask] 86:=ak.new _ _ _;generalize(w.alloc (.cells [Value.int .u64 mask].toArray 86))=w1 at*;have xx:w.heap.size≠d:=by have:=h.af.lt;omega
 refine au ?_;refine aj (aV rfl ((UE (h.keep ah (by simp)) hL (D4 mask) 213 [.pointer (some ⟨w.heap.size,0,none⟩)] (by decide+kernel)
  (fun i _ w2 an=>(aeW (an.af hc (by simpa using xx)) i).mono fun v w' hv=>⟨hv.1,hv.2▸ae.refl _ _⟩)).mono ?_))
 rintro v w2⟨rfl,h2,an⟩;refine au ?_;exact bK func182 rfl ⟨rfl,h2,(ah.bG).tr an⟩
theorem aeZ{w:World}{b:Nat}{cs:List Value}(hr:w.rangeAt b 0 cs)(hl:cs.length=272)(h1:∀u∈cs,u.oneCell'=true):aC prog 258 [.slice (some ⟨b,0,none⟩) 34 34] w fun v w'=>∃g cap,v=.slice (some ⟨g,0,none⟩) 34 cap∧w'.ownsRow w.heap.size 254 8 v 34 cs∧ae [] w w':=by
 refine aG 8 func258 ?_;refine au ?_;refine ai (.bool false) (Us hT rfl rfl rfl w) ?_;refine au ?_;refine aj (Da 254 [] rfl rfl (by kernel_rfl) ?_);have ah:ae [] w (w.alloc (.cells ([]:List Value).toArray 254)):=(ae.refl _ _).alloc _;have aM:ak (w.alloc (.cells ([]:List Value).toArray 254)) w.heap.size [] 254:=ak.new _ _ _;have fh:(w.alloc (.cells ([]:List Value).toArray 254)).rangeAt b 0 cs:=World.rangeAt_alloc hr _;generalize(w.alloc (.cells ([]:List Value).toArray 254))=w1 at*;refine au ?_;refine aj (Na w.heap.size 254 8 64 [] cs rfl rfl rfl (by decide+kernel) (by decide) ⟨rfl,.inr ⟨w.heap.size,0,#[],rfl,Nat.le_refl _,aM,Nat.le_refl _,by decide,rfl,rfl⟩⟩ fh hl h1 (by decide) (by decide) (by decide) (by have:=ah.size;omega) ?_);intro g cap w2 bW PG eJ az;refine au ?_;refine ay func258 rfl ⟨g,cap,rfl,by simpa using bW,ah.grown PG fun k e=>?_⟩;simp only[Value.ownBlock,Option.some.injEq]at e;exact .inr (by omega)
theorem Wz{B:Nat}{w:World}{d:Nat}{S:List Int}{L:List Wr}{wv:Value}(h:fL B w d S L wv):aC prog 230 [.pointer (some ⟨d,0,none⟩)] w fun v w'=>∃g cap,v=.slice (some ⟨g,0,none⟩) 34 cap∧w'.ownsRow w.heap.size 254 8 v 34 (ints S)∧ae [] w w':=by
 refine aG 8 func230 ?_;refine au ?_;refine ai _ (A1 hT rfl rfl rfl w) ?_;refine aj (aV rfl ((aeZ (h.af.range (by simp)) (by rw[bQ,h.len]) (k6 S)).mono ?_));rintro v w1⟨g,cap,rfl,ho,hk⟩;refine au ?_;exact ay func230 rfl ⟨g,cap,rfl,ho,hk⟩
theorem ae.range{fp:List Nat}{w w':World}(h:ae fp w w'){b q:Nat}{cs:List Value}(hr:w.rangeAt b q cs)(az:b<w.heap.size)(hn:b∉fp):w'.rangeAt b q cs:=fun j v hv=>by
 rw[World.cell?_of_block (w:=w) (h.block b az hn)];exact hr j v hv
theorem ahg{w:World}{b q:Nat}{cs ds:List Value}(h:w.rangeAt b q cs)(k:Nat)(hd:(cs.drop k).take ds.length=ds):w.rangeAt b (q+k) ds:=fun j v hv=>by
 rw[Nat.add_assoc];refine h (k+j) v ?_;rw[←hd,List.getElem?_take]at hv;split at hv
 ·simpa using hv
 ·cases hv
def dX(S:List Int)(k:Nat):List Int:=(S.drop (k*8)).take 8
theorem FA{S:List Int}(h:S.length=272){k:Nat}(hk:k<34):(dX S k).length=8:=by simp[dX,h];omega
theorem Yp{B:Nat}{w:World}{g cap:Nat}{S:List Int}(h:w.ownsRow B 254 8 (.slice (some ⟨g,0,none⟩) 34 cap) 34 (ints S))(hS:S.length=272){k:Nat}(hk:k<34):w.rangeAt g (0+k*8) (ints (dX S k)):=by
 refine Ut h ?_;rw[Nat.zero_add,bQ,FA hS hk];simp[dX,ints,List.map_take,List.map_drop]
theorem Jm{S:List Int}{p:Wr}{k:Nat}(hS:S.length=272)(hp:p.1<34∧p.2.length=8)(hk:k<34):dX (mc S p) k=if p.1=k then p.2 else dX S k:=by
 obtain⟨a,ws⟩:=p;simp only at hp⊢;unfold dX mc;simp only;apply List.ext_getElem?;intro j;by_cases e:a=k
 ·subst e;simp only[if_true,List.getElem?_take,List.getElem?_drop];split
  ·rename_i hj
   rw[List.getElem?_append_left (by simp[hS,hp.2];omega),List.getElem?_append_right (by simp[hS];omega)];congr 1;simp[hS];omega
  ·rename_i hj
   rw[List.getElem?_eq_none (by omega)]
 ·simp only[e,if_false,List.getElem?_take,List.getElem?_drop];split
  ·rename_i hj
   rcases Nat.lt_or_gt_of_ne e with h|h
   ·rw[List.getElem?_append_right (by simp[hS,hp.2];omega),List.getElem?_drop];congr 1;simp[hS,hp.2];omega
   ·rw[List.append_assoc,List.getElem?_append_left (by simp[hS];omega),List.getElem?_take,if_pos (by omega)]
  ·rfl
abbrev z8:List Int:=List.replicate 8 0
def hd(l:List Int):Int:=l.headD 0
def kQ(i:Int):Bool:=decide (0≤i)&&decide (i<14)
def jm(S:List Int)(at_:Int):List Int:=if at_=0∨hasB at_=false then z8 else dX S at_.toNat
def gW(S:List Int):Nat→List Int
 |0=>z8
 |j+1=>if hd (dX S j)>hd (gW S j)then dX S j else gW S j
def tT(S:List Int):List Int:=gW S 2
def fE(S:List Int):Int:=hd (tT S)
def iR(S:List Int):List Int:=((tT S).drop 1).take 2
def fH(S:List Int):List Int:=(jm S ((iR S).getD 0 0)++jm S ((iR S).getD 1 0)).take 14
def nA(S:List Int):List Int:=fE S::(iR S++fH S)
def gX(S:List Int)(i:Int):List Int:=if kQ i then jm S ((fH S).getD i.toNat 0)else z8
theorem De{S:List Int}(hS:S.length=272)(a:Int):(jm S a).length=8:=by
 unfold jm;split
 ·simp[z8]
 ·rename_i h
  have h2:hasB a=true:=by
   rcases hb:hasB a with _|_
   ·exact absurd (.inr hb) h
   ·rfl
  simp[hasB]at h2;exact FA hS (by omega)
theorem MW{S:List Int}(hS:S.length=272):∀j,j≤34→(gW S j).length=8
 |0,_=>by simp[gW,z8]
 |j+1,h=>by
  unfold gW;split
  ·exact FA hS (by omega)
  ·exact MW hS j (by omega)
theorem S9{S:List Int}(hS:S.length=272):(tT S).length=8:=MW hS 2 (by decide)
theorem Dh{S:List Int}(hS:S.length=272):(iR S).length=2:=by simp[iR,S9 hS]
theorem zq{S:List Int}(hS:S.length=272):(fH S).length=14:=by simp[fH,De hS]
theorem afw{S:List Int}(hS:S.length=272):(nA S).length=17:=by simp[nA,Dh hS,zq hS]
theorem FC{S:List Int}(hS:S.length=272)(i:Int):(gX S i).length=8:=by
 unfold gX;split
 ·exact De hS _
 ·simp[z8]
theorem ZB{l:List Int}(h:l.length=2):∃a b,l=[a,b]:=by
 match l,h with
 |[a,b],_=>exact⟨a,b,rfl⟩
theorem Xm(i:Int)(w:World):aC prog 229 [.int .i64 i] w fun v w'=>v=.bool (kQ i)∧w'=w:=by
 refine aG 9 func229 ?_;refine au ?_;by_cases h0:0≤i
 ·refine ai (.bool true) (bP .i64 i 0 _ rfl (by simp[bU,h0]) w) ?_;refine au ?_;refine ai (.bool (decide (i<14))) (bP .i64 i 14 _ rfl (by simp[bU]) w) ?_;refine au ?_;refine ay func229 rfl ⟨?_,rfl⟩;simp[kQ,h0]
 ·refine ai (.bool false) (bP .i64 i 0 _ rfl (by simp[bU,h0]) w) ?_;refine au ?_;refine ay func229 rfl ⟨?_,rfl⟩;simp[kQ,h0]
theorem Xn{B:Nat}{w:World}{g cap:Nat}{S:List Int}(ho:w.ownsRow B 254 8 (.slice (some ⟨g,0,none⟩) 34 cap) 34 (ints S))(hS:S.length=272)(a:Int):aC prog 231 [.slice (some ⟨g,0,none⟩) 34 cap,.int .i64 a] w fun v w'=>v=.agg (ints (jm S a)).toArray∧ae [] w w':=by
 refine aG 17 func231 ?_;refine au ?_;refine aj (nD _ rfl wj ?_);have az:g<w.heap.size:=(ho.lt g rfl).2;have hr:=ak.new w (ints (List.replicate 8 0)) 254;have ah:ae [] w (w.alloc (.cells (ints (List.replicate 8 0)).toArray 254)):=(ae.refl _ _).alloc _;have gx:=ah.owns ho (by simp);generalize(w.alloc (.cells (ints (List.replicate 8 0)).toArray 254))=w1 at*;refine aP ?_;refine bT ?_;refine bT ?_;refine fx (fun σ w'=>w'=w1∧σ=[(0,.slice (some ⟨g,0,none⟩) 34 cap),(1,.int .i64 a),(4,.pointer (some ⟨w.heap.size,0,none⟩)),(11,.bool (decide (a=0∨hasB a=false)))]) ?_ ?_
 ·rintro σ w2⟨rfl,rfl⟩;by_cases Hx:a=0∨hasB a=false
  ·rw[decide_eq_true Hx];refine au ?_;refine ai _ (bL _ rfl rfl TF w2) ?_;refine aj (iL _ rfl rfl rfl rfl (by kernel_rfl) hr (by simp[ints]) (k6 _) ?_);rw[nG rfl];refine au ?_;refine df func231 (.inr (.inr (.inl ⟨_,_,_,rfl,rfl,wh hT (cs:=ints (List.replicate 8 0)) rfl ((hr.set _).range (by simp))⟩))) ⟨?_,ah.setRow _ _ (.inr (Nat.le_refl _))⟩;rw[jm,if_pos Hx]
  ·rw[decide_eq_false Hx];refine au ?_;have hb:hasB a=true:=by
    rcases hb:hasB a with _|_
    ·exact absurd (.inr hb) Hx
    ·rfl
   have hi:0≤a∧a<34:=by simpa[hasB]using hb
   refine ai _ (A7 a.toNat hT rfl rfl rfl rfl (by omega) (by omega) w2) ?_;have h8:(dX S a.toNat).length=8:=FA hS (by omega);refine ai (.agg (ints (dX S a.toNat)).toArray) (h_ _ hT rfl rfl (by rw[bQ,h8];rfl) (Yp gx hS (by omega))) ?_;refine aj (iL _ rfl rfl rfl rfl (by rw[bQ,h8];decide+kernel) hr (by rw[bQ,h8];decide) (k6 _) ?_);rw[nG (by rw[bQ,h8];rfl)];refine au ?_;refine df func231 (.inr (.inr (.inl ⟨_,_,_,rfl,rfl,wh hT (cs:=ints (dX S a.toNat)) (by rw[bQ,h8];rfl) ((hr.set _).range (by simp))⟩))) ⟨?_,ah.setRow _ _ (.inr (Nat.le_refl _))⟩;rw[jm,if_neg Hx]
 intro zS;refine cH ?_;by_cases h0:a=0
 ·refine lP hT rfl rfl rfl ?_;refine ai (.bool true) (bP .i64 a 0 _ rfl (by simp[bU,h0]) w1) ?_
  repeat (first|refine lP hT rfl rfl rfl ?_|refine fP ?_|refine uS rfl rfl ?_)
  refine bj ?_ (zS _ w1 ⟨rfl,rfl⟩);rw[decide_eq_true (.inl h0)];exact⟨rfl,rfl,rfl,rfl,trivial⟩
 ·refine lP hT rfl rfl rfl ?_;refine ai (.bool false) (bP .i64 a 0 _ rfl (by simp[bU,h0]) w1) ?_
  repeat (first|refine lP hT rfl rfl rfl ?_)
  refine aj (aV rfl ((Oc a _).mono ?_));rintro v w1⟨rfl,rfl⟩
  repeat (first|refine lP hT rfl rfl rfl ?_|refine fP ?_)
  refine bj ?_ (zS _ w1 ⟨rfl,rfl⟩);rw[show decide (a=0∨hasB a=false)=!hasB a by cases hasB a<;>simp[h0]];exact⟨rfl,rfl,rfl,rfl,trivial⟩
theorem U6:((prog.info? 310).bind (·.zero)).map (·.cells)=some (ints (List.replicate 17 0)).toArray:=by kernel_rfl
theorem aes(g:Int):prog.built 310 [(0,Value.int .i64 g)]=some (ints (g::List.replicate 16 0)).toArray:=by kernel_rfl
def mz(S:List Int)(t0 t1:Int):Nat→List Int
 |0=>List.replicate 14 0
 |1=>jm S t0++List.replicate 6 0
 |_=>(jm S t0++jm S t1).take 14
theorem Uh{S:List Int}(hS:S.length=272)(t0 t1:Int)(j:Nat):(mz S t0 t1 j).length=14:=by
 unfold mz;split<;>simp[De hS]
theorem abb:Gs prog 307 2=true:=by decide+kernel
theorem abc:Gs prog 308 14=true:=by decide+kernel
theorem TL{w:World}{b i:Nat}{cs ds:List Value}(h:w.rangeAt b i cs)(hd:ds=cs.take ds.length):w.rangeAt b i ds:=fun j u hu=>h j u (by
 rw[hd,List.getElem?_take]at hu;split at hu
 ·exact hu
 ·cases hu)
theorem Xo{B:Nat}{w:World}{g cap:Nat}{S:List Int}(ho:w.ownsRow B 254 8 (.slice (some ⟨g,0,none⟩) 34 cap) 34 (ints S))(hS:S.length=272)(yv:2≤cap):aC prog 232 [.slice (some ⟨g,0,none⟩) 34 cap] w fun v w'=>v=.agg (ints (nA S)).toArray∧ae [] w w':=by
 refine aG 48 func232 ?_;refine au ?_;refine aj (nD _ rfl U6 ?_);refine au ?_;refine aj (nD _ rfl wj ?_);rw[World.size_alloc];have ah:ae [] w ((w.alloc (.cells (ints (List.replicate 17 0)).toArray 310)).alloc (.cells (ints (List.replicate 8 0)).toArray 254)):=((ae.refl _ _).alloc _).alloc _;have r6:ak ((w.alloc (.cells (ints (List.replicate 17 0)).toArray 310)).alloc (.cells (ints (List.replicate 8 0)).toArray 254)) w.heap.size (ints (List.replicate 17 0)) 310:=(ak.new _ _ _).alloc _;have px:ak ((w.alloc (.cells (ints (List.replicate 17 0)).toArray 310)).alloc (.cells (ints (List.replicate 8 0)).toArray 254)) (w.heap.size+1) (ints (List.replicate 8 0)) 254:=by
  have:=ak.new (w.alloc (.cells (ints (List.replicate 17 0)).toArray 310)) (ints (List.replicate 8 0)) 254
  rwa [World.size_alloc]at this
 generalize((w.alloc (.cells (ints (List.replicate 17 0)).toArray 310)).alloc (.cells (ints (List.replicate 8 0)).toArray 254))=w1 at*;have hg:g<w.heap.size:=(ho.lt g rfl).2;refine au ?_;refine ai _ (I7 2 hT rfl rfl rfl rfl rfl yv w1) ?_;refine au ?_;refine cP (fun m σ w'=>∃j,m=2-j∧j≤2∧σ=[(0,.slice (some ⟨g,0,none⟩) 34 cap),(2,.pointer (some ⟨w.heap.size,0,none⟩)),(3,.pointer (some ⟨w.heap.size+1,0,none⟩)),(11,.slice (some ⟨g,0,none⟩) 2 cap),(12,.int .i64 2),(13,.int .i64 (j:Nat))]∧
   ae [] w w'∧ak w' w.heap.size (ints (List.replicate 17 0)) 310∧ak w' (w.heap.size+1) (ints (gW S j)) 254)
  (2-0) _ ?_ ⟨0,rfl,by decide,rfl,ah,r6,px⟩ ?_
 ·exact⟨rfl,rfl,rfl,rfl,rfl,rfl,trivial⟩
 clear ah r6 px;rintro m σ w2 ih⟨j,hm,hj,rfl,an,r6,px⟩;refine au ?_;rcases Nat.lt_or_ge j 2 with az|ij
 ·refine ai (.bool true) (bP .i64 _ _ _ rfl (by simp[bU];omega) w2) ?_;refine au ?_;have h8:(dX S j).length=8:=FA hS (by omega);have EW:(gW S j).length=8:=MW hS j (by omega);refine ai _ (bJ j rfl az w2) ?_;refine ai (.agg (ints (dX S j)).toArray) (h_ _ hT rfl rfl (by rw[bQ,h8];rfl) (Yp (an.owns ho (by simp)) hS (by omega))) ?_;refine aj (nD _ rfl wj ?_);have aw:ae [] w (w2.alloc (.cells (ints (List.replicate 8 0)).toArray 254)):=an.alloc _;have fX:=ak.new w2 (ints (List.replicate 8 0)) 254;have KU:=r6.alloc (.cells (ints (List.replicate 8 0)).toArray 254);have Kt:=px.alloc (.cells (ints (List.replicate 8 0)).toArray 254);have bw:=an.size;generalize(w2.alloc (.cells (ints (List.replicate 8 0)).toArray 254))=w3 at*;refine au ?_;refine aj (iL _ rfl rfl rfl rfl (by rw[bQ,h8];decide+kernel) fX (by rw[bQ,h8];decide) (k6 _) ?_);rw[nG (by rw[bQ,h8];rfl)];have ax:=aw.setRow w2.heap.size (ints (dX S j)).toArray (.inr bw);have cy:=fX.set (ints (dX S j));have GO:=KU.other (ints (dX S j)).toArray (c:=w2.heap.size) (by have:=r6.lt;omega);have BD:=Kt.other (ints (dX S j)).toArray (c:=w2.heap.size) (by have:=px.lt;omega);have CP:w.heap.size+1≠w2.heap.size:=by have:=px.lt;omega
  generalize(w3.setRow w2.heap.size (ints (dX S j)).toArray)=w4 at*;refine au ?_;refine ai _ (nC 0 hT rfl rfl rfl rfl rfl (by decide) w4) ?_;refine ai (.int .i64 (hd (dX S j))) (aB rfl (cy.cell (by obtain⟨a,b,c,d,e,f,g,i,h⟩:=wF h8;rw[h];rfl))) ?_;refine ai _ (nC 0 hT rfl rfl rfl rfl rfl (by decide) w4) ?_;refine ai (.int .i64 (hd (gW S j))) (aB rfl (BD.cell (by obtain⟨a,b,c,d,e,f,g,i,h⟩:=wF EW;rw[h];rfl))) ?_;by_cases pX:hd (dX S j)>hd (gW S j)
  ·refine ai (.bool true) (bP .i64 _ _ _ rfl (by simp only[bU,pX,decide_true]) w4) ?_;refine au ?_;refine ai (.agg (ints (dX S j)).toArray) (h_ _ hT rfl rfl (by rw[bQ,h8];rfl) (cy.range (by simp))) ?_;refine aj (iL _ rfl rfl rfl rfl (by rw[bQ,h8];decide+kernel) BD (by rw[bQ,bQ,h8,EW];decide) (k6 _) ?_);rw[nG (by rw[bQ,h8,bQ,EW])];have aE:=ax.setRow (w.heap.size+1) (ints (dX S j)).toArray (.inr (by omega));have alq:=BD.set (ints (dX S j));have KV:=GO.other (ints (dX S j)).toArray (c:=w.heap.size+1) (by omega);generalize(w4.setRow (w.heap.size+1) (ints (dX S j)).toArray)=w5 at*;refine au ?_;refine ai (.int .i64 ((j+1:Nat):Int)) (bP .i64 j 1 _ rfl (by simp only[bU];rw[wrap_i64 (by omega) (by omega)];rfl) w5) ?_;refine au ?_;refine bj ?_ (ih (2-(j+1)) _ w5 (by omega) ⟨j+1,rfl,az,rfl,aE,KV,by rw[gW,if_pos pX];exact alq⟩);exact⟨rfl,rfl,rfl,rfl,rfl,rfl,trivial⟩
  ·refine ai (.bool false) (bP .i64 _ _ _ rfl (by simp only[bU,pX,decide_false]) w4) ?_;refine au ?_;refine ai (.int .i64 ((j+1:Nat):Int)) (bP .i64 j 1 _ rfl (by simp only[bU];rw[wrap_i64 (by omega) (by omega)];rfl) w4) ?_;refine au ?_;refine bj ?_ (ih (2-(j+1)) _ w4 (by omega) ⟨j+1,rfl,az,rfl,ax,GO,by rw[gW,if_neg pX];exact BD⟩);exact⟨rfl,rfl,rfl,rfl,rfl,rfl,trivial⟩
 have H4:j=2:=by omega
 subst H4;clear ih;refine ai (.bool false) (bP .i64 _ _ _ rfl (by simp[bU]) w2) ?_;refine au ?_;have hl8:=S9 hS;replace px:ak w2 (w.heap.size+1) (ints (tT S)) 254:=px;have aZ:nA S=fE S::(iR S++fH S):=rfl;have IV:fH S=mz S ((iR S).getD 0 0) ((iR S).getD 1 0) 2:=rfl;have Hh:fE S=hd (tT S):=rfl;have Hy:iR S=((tT S).drop 1).take 2:=rfl;rw[aZ,IV,Hh,Hy];generalize tT S=R at*;obtain⟨a0,a1,a2,a3,a4,a5,a6,a7,rfl⟩:=wF hl8;clear aZ IV Hh Hy hl8;have bw:=an.size;refine ai _ (nC 0 hT rfl rfl rfl rfl rfl (by decide) w2) ?_;refine ai (.int .i64 a0) (aB rfl (px.cell rfl)) ?_;refine ai _ (bL _ rfl rfl (aes a0) w2) ?_;refine aj (nD _ rfl U6 ?_);have aw:ae [] w (w2.alloc (.cells (ints (List.replicate 17 0)).toArray 310)):=an.alloc _;have fX:=ak.new w2 (ints (List.replicate 17 0)) 310;have KU:=r6.alloc (.cells (ints (List.replicate 17 0)).toArray 310);have Kt:=px.alloc (.cells (ints (List.replicate 17 0)).toArray 310);have cJ:w.heap.size≠w2.heap.size:=by have:=r6.lt;omega
 have gi:w.heap.size+1≠w2.heap.size:=by have:=px.lt;omega
 generalize(w2.alloc (.cells (ints (List.replicate 17 0)).toArray 310))=w3 at*;refine au ?_;refine aj (iL _ rfl rfl rfl rfl (by kernel_rfl) fX (by simp[ints]) (k6 _) ?_);rw[nG (show(ints (a0::List.replicate 16 0)).length=(ints (List.replicate 17 0)).length from rfl)];have ax:=aw.setRow w2.heap.size (ints (a0::List.replicate 16 0)).toArray (.inr bw);have cy:=fX.set (ints (a0::List.replicate 16 0));have GO:=KU.other (ints (a0::List.replicate 16 0)).toArray cJ;have BD:=Kt.other (ints (a0::List.replicate 16 0)).toArray gi;generalize(w3.setRow w2.heap.size (ints (a0::List.replicate 16 0)).toArray)=w4 at*;refine au ?_;refine bC (fun _=>True) [] bE ?_;refine tk 0 ?_;refine bD 1 _ rfl (fun w'=>A1 hT rfl rfl rfl w') ?_;refine bD 2 _ rfl (fun w'=>C_ 1 hT rfl rfl rfl rfl rfl (by decide) w') ?_;refine a8 3 rfl (Dq (ints [a1,a2]) rfl rfl rfl (by decide+kernel) cy.drew rfl (BD.drew.range rfl) (by simp[ints]) (k6 _) fun r=>⟨fun _=>trivial,?_⟩);refine bm ?_;have e1:b_ (ints (a0::List.replicate 16 0)) (0+1) (ints [a1,a2])=ints (a0::a1::a2::mz S a1 a2 0):=rfl;rw[e1];have aE:=(ax.drew).setRow w2.heap.size (ints (a0::a1::a2::mz S a1 a2 0)).toArray (.inr bw);have gw:=cy.drew.set (ints (a0::a1::a2::mz S a1 a2 0));have KV:=GO.drew.other (ints (a0::a1::a2::mz S a1 a2 0)).toArray cJ;clear cy GO BD ax aw fX KU Kt r6 px;generalize(w4.drew.setRow w2.heap.size (ints (a0::a1::a2::mz S a1 a2 0)).toArray)=w5 at*;generalize hx:w2.heap.size=x at*;clear an hx;refine au ?_;refine ai (.agg (ints [a1,a2]).toArray) (bF _ rfl (gw.range rfl)) ?_;refine au ?_;refine cP (fun m σ w'=>∃j,m=2-j∧j≤2∧σ=[(0,.slice (some ⟨g,0,none⟩) 34 cap),(2,.pointer (some ⟨w.heap.size,0,none⟩)),(6,.pointer (some ⟨x,0,none⟩)),(32,.agg (ints [a1,a2]).toArray),(33,.int .i64 (j:Nat))]∧
   ae [] w w'∧ak w' w.heap.size (ints (List.replicate 17 0)) 310∧ak w' x (ints (a0::a1::a2::mz S a1 a2 j)) 310)
  (2-0) _ ?_ ⟨0,rfl,by decide,rfl,aE,KV,gw⟩ ?_
 ·exact⟨rfl,rfl,rfl,rfl,rfl,trivial⟩
 clear aE KV gw;rintro m σ w6 ih⟨j,hm,hj,rfl,aD,r6,im⟩;refine au ?_;rcases Nat.lt_or_ge j 2 with az|ij
 ·refine ai (.bool true) (bP .i64 _ _ _ rfl (by simp[bU];omega) w6) ?_;refine au ?_;obtain⟨t,ht⟩:∃t,[a1,a2][j]?=some t:=⟨_,List.getElem?_eq_getElem (by simpa using az)⟩;refine ai (.int .i64 t) (Kf [a1,a2] j abb rfl rfl rfl rfl az ht w6) ?_;refine au ?_;refine aj (aV rfl ((Xn (aD.owns ho (by simp)) hS t).mono ?_));rintro v w7⟨rfl,aN⟩;have h8:=De hS t;refine aj (nD _ rfl wj ?_);have G1:=aD.dt aN;have aS:ae [] w (w7.alloc (.cells (ints (List.replicate 8 0)).toArray 254)):=G1.alloc _;have lN:=ak.new w7 (ints (List.replicate 8 0)) 254;have ZC:=aN.af r6 (by simp);have sd:=aN.af im (by simp);have ami:=ZC.alloc (.cells (ints (List.replicate 8 0)).toArray 254);have hx8:=sd.alloc (.cells (ints (List.replicate 8 0)).toArray 254);have iy:w.heap.size≠w7.heap.size:=by have:=ZC.lt;omega
  have iZ:x≠w7.heap.size:=by have:=sd.lt;omega
  have cD:=G1.size;generalize(w7.alloc (.cells (ints (List.replicate 8 0)).toArray 254))=w8 at*;refine au ?_;refine aj (iL _ rfl rfl rfl rfl (by rw[bQ,h8];decide+kernel) lN (by rw[bQ,h8];decide) (k6 _) ?_);rw[nG (by rw[bQ,h8];rfl)];have bg:=aS.setRow w7.heap.size (ints (jm S t)).toArray (.inr cD);have rH:=lN.set (ints (jm S t));have amj:=ami.other (ints (jm S t)).toArray iy;have uO:=hx8.other (ints (jm S t)).toArray iZ;generalize(w8.setRow w7.heap.size (ints (jm S t)).toArray)=w9 at*;refine au ?_;refine bC (fun _=>True) [] bE ?_;refine tk 0 ?_;refine tk 1 ?_;refine bD 2 (.int .i64 ((j*8:Nat):Int)) rfl (fun w'=>bP .i64 j 8 _ rfl (by simp only[bU];rw[wrap_i64 (by omega) (by omega)];simp) w') ?_;refine bD 3 _ rfl (fun w'=>C_ (j*8) hT rfl rfl rfl rfl rfl (by omega) w') ?_;refine bD 4 _ rfl (fun w'=>A1 hT rfl rfl rfl w') ?_;have ek:((jm S t).take (Nat.min 8 (14-j*8))).length=Nat.min 8 (14-j*8):=by rw[List.length_take,h8];exact Nat.min_eq_left (Nat.min_le_left _ _)
  have hle:Nat.min 8 (14-j*8)≤14-j*8:=Nat.min_le_right _ _;refine a8 5 rfl (Dq (ints ((jm S t).take (Nat.min 8 (14-j*8)))) rfl rfl rfl (by decide+kernel) uO.drew (by rw[bQ,ek]) (TL (rH.drew.range (cs:=ints (jm S t)) (by simp)) (by rw[bQ,ek];simp[ints,List.map_take])) (by rw[bQ,ek,bQ];simp[Uh hS];omega) (k6 _) fun r=>⟨fun _=>trivial,?_⟩);refine bm ?_;have e2:b_ (ints (a0::a1::a2::mz S a1 a2 j)) (0+3+j*8*1) (ints ((jm S t).take (Nat.min 8 (14-j*8))))=ints (a0::a1::a2::mz S a1 a2 (j+1)):=by
   have tN:j=0∨j=1:=by omega
   rcases tN with rfl|rfl
   ·simp at ht;subst ht;simp only[mz];obtain⟨b0,b1,b2,b3,b4,b5,b6,b7,hb⟩:=wF h8;rw[hb];rfl
   ·simp at ht;subst ht;simp only[mz];obtain⟨b0,b1,b2,b3,b4,b5,b6,b7,hb⟩:=wF h8;obtain⟨c0,c1,c2,c3,c4,c5,c6,c7,hc⟩:=wF (De hS a1);rw[hb,hc];rfl
  rw[e2];have bV:=(bg.drew).setRow x (ints (a0::a1::a2::mz S a1 a2 (j+1))).toArray (.inr bw);have Er:=uO.drew.set (ints (a0::a1::a2::mz S a1 a2 (j+1)));have alr:=amj.drew.other (ints (a0::a1::a2::mz S a1 a2 (j+1))).toArray cJ;generalize(w9.drew.setRow x (ints (a0::a1::a2::mz S a1 a2 (j+1))).toArray)=bM at*;refine au ?_;refine ai (.int .i64 ((j+1:Nat):Int)) (bP .i64 j 1 _ rfl (by simp only[bU];rw[wrap_i64 (by omega) (by omega)];rfl) bM) ?_;refine au ?_;refine bj ?_ (ih (2-(j+1)) _ bM (by omega) ⟨j+1,rfl,az,rfl,bV,alr,Er⟩);exact⟨rfl,rfl,rfl,rfl,rfl,trivial⟩
 have H4:j=2:=by omega
 subst H4;refine ai (.bool false) (bP .i64 _ _ _ rfl (by simp[bU]) w6) ?_;refine au ?_;have o7:(a0::a1::a2::mz S a1 a2 2).length=17:=by simp[Uh hS]
 refine ai (.agg (ints (a0::a1::a2::mz S a1 a2 2)).toArray) (h_ _ hT rfl rfl (by rw[bQ,o7];rfl) (im.range (by simp))) ?_;refine aj (iL (ints (a0::a1::a2::mz S a1 a2 2)) rfl rfl rfl rfl (by rw[bQ,o7];decide+kernel) r6 (by rw[bQ,o7];decide) (k6 _) ?_);rw[nG (by rw[bQ,o7];rfl)];refine au ?_;refine df func232 (.inr (.inr (.inl ⟨_,_,_,rfl,rfl,wh hT (cs:=ints (a0::a1::a2::mz S a1 a2 2)) (by rw[bQ,o7];rfl) ((r6.set _).range (by simp))⟩))) ⟨?_,aD.setRow _ _ (.inr (Nat.le_refl _))⟩;rfl
def oL(w:World)(s d:Nat):Prop:=ak w s [.pointer (some ⟨d,0,none⟩)] 286
theorem aet(d:Nat):prog.built 286 [(0,Value.pointer (some ⟨d,0,none⟩))]=some [Value.pointer (some ⟨d,0,none⟩)].toArray:=by kernel_rfl
theorem air(d:Nat)(w:World):aC prog 175 [.pointer (some ⟨d,0,none⟩)] w fun v w'=>v=.pointer (some ⟨w.heap.size,0,none⟩)∧oL w' w.heap.size d∧ae [] w w':=by
 refine aG 6 func175 ?_;refine au ?_;refine ai _ (bL _ rfl rfl (aet d) w) ?_;refine aj (qG _ rfl rfl rfl ?_);refine au ?_;exact ay func175 rfl ⟨rfl,ak.new w _ _,(ae.refl _ _).alloc _⟩
theorem Xp{w:World}{B e size n g cap:Nat}{xs:List Value}(h:w.ownsRow B e size (.slice (some ⟨g,0,none⟩) n cap) n xs):n≤cap:=by
 rcases h.2 with⟨h1,h2⟩|⟨g',iF,cur,h1,_,_,hc,_⟩
 ·cases h1
 ·injection h1 with e1 e2 e3;subst e3
  first|exact hc|omega
theorem ahh{S:List Int}(hS:S.length=272):((ints (nA S)).drop 3).take 14=ints (fH S):=by
 obtain⟨a,b,h⟩:=ZB (Dh hS);have hp:=zq hS;simp only[nA,h];simp[ints,hp,List.take_of_length_le]
theorem agV{B:Nat}{w:World}{s d:Nat}{S:List Int}{L:List Wr}{wv:Value}(hs:oL w s d)(h:fL B w d S L wv)(i:Int):aC prog 205 [.pointer (some ⟨s,0,none⟩),.int .i64 i] w fun v w'=>v=.agg (ints (gX S i)).toArray∧ae [] w w':=by
 refine aG 22 func205 ?_;refine au ?_;refine aj (nD _ rfl wj ?_);have hr:=ak.new w (ints (List.replicate 8 0)) 254;have ah:ae [] w (w.alloc (.cells (ints (List.replicate 8 0)).toArray 254)):=(ae.refl _ _).alloc _;have h1:=h.keep ah (by simp);have bt:=ah.af hs (by simp);generalize(w.alloc (.cells (ints (List.replicate 8 0)).toArray 254))=w1 at*;refine au ?_;refine aj (aV rfl ((Xm i _).mono ?_));rintro v w1⟨rfl,rfl⟩;cases hb:kQ i with
 |false=>
  refine au ?_;refine ai _ (bL _ rfl rfl TF w1) ?_;refine aj (iL _ rfl rfl rfl rfl (by kernel_rfl) hr (by simp[ints]) (k6 _) ?_);rw[nG rfl];refine au ?_;refine df func205 (.inr (.inr (.inl ⟨_,_,_,rfl,rfl,wh hT (cs:=ints (List.replicate 8 0)) rfl ((hr.set _).range (by simp))⟩))) ⟨?_,ah.setRow _ _ (.inr (Nat.le_refl _))⟩;simp[gX,hb];rfl
 |true=>
  have hi:0≤i∧i<14:=by simpa[kQ]using hb
  refine au ?_;refine ai (.pointer (some ⟨d,0,none⟩)) (aB rfl (bt.cell rfl)) ?_;refine aj (aV rfl ((Wz h1).mono ?_));rintro v w2⟨g,cap,rfl,ho,an⟩;refine au ?_;refine aj (aV rfl ((Xo ho h.len (by have:=Xp ho;omega)).mono ?_));rintro v w3⟨rfl,aw⟩;refine ai (.agg (ints (fH S)).toArray) (Tt (m:=14) 3 _ _ rfl rfl (by decide+kernel) (ahh h.len) w3) ?_;refine au ?_;have Hw:=zq h.len;refine ai (.int .i64 ((fH S).getD i.toNat 0)) (Kf (fH S) i.toNat abc rfl rfl rfl (by omega) (by omega) (by rw[List.getD_eq_getElem?_getD,List.getElem?_eq_getElem (by omega)];rfl) w3) ?_;refine aj (aV rfl ((Xn (aw.owns ho (by simp)) h.len _).mono ?_));rintro v w4⟨rfl,ax⟩;have gP:=(an.dt aw).dt ax;have jy:=gP.af hr (by simp);have hlen:(ints (jm S ((fH S).getD i.toNat 0))).length=8:=by rw[bQ,De h.len]
  refine aj (iL _ rfl rfl rfl rfl (by rw[hlen];decide+kernel) jy (by rw[hlen];decide) (k6 _) ?_);rw[nG (by rw[hlen];rfl)];refine au ?_;refine df func205 (.inr (.inr (.inl ⟨_,_,_,rfl,rfl,wh hT (cs:=ints (jm S ((fH S).getD i.toNat 0))) (by rw[hlen];rfl) ((jy.set _).range (by simp))⟩))) ⟨?_,(ah.dt gP).setRow _ _ (.inr (Nat.le_refl _))⟩;simp[gX,hb]
abbrev Pg:=Int×List Int
def dx(p:Pg):List Value:=.int .i64 p.1::ints p.2
def zG(l:List Pg):List Value:=l.flatMap dx
theorem qF{p:Pg}(h:p.2.length=8):(dx p).length=9:=by simp[dx,bQ,h]
theorem FZ(p:Pg):∀u∈dx p,u.oneCell'=true:=by
 intro u hu;rcases List.mem_cons.1 hu with rfl|hu
 ·rfl
 ·exact k6 p.2 u hu
structure uL(B:Nat)(w:World)(v:Value)(ps:List Pg):Prop where
 ex:∃a cap,v=.slice a ps.length cap∧(ps≠[]→∃b q,a=some ⟨b,q,none⟩∧b<B∧w.rangeAt b q (zG ps))
 wf:∀p∈ps,p.2.length=8
 le:B≤w.heap.size
theorem uL.keep{B:Nat}{w w':World}{v:Value}{ps:List Pg}{fp:List Nat}(h:uL B w v ps)(hk:ae fp w w')(hn:∀k∈fp,B≤k):uL B w' v ps:=by
 obtain⟨a,cap,hv,hm⟩:=h.ex;refine⟨⟨a,cap,hv,fun bS=>?_⟩,h.wf,Nat.le_trans h.le hk.size⟩;obtain⟨b,q,ha,az,hr⟩:=hm bS;exact⟨b,q,ha,az,hk.range hr (Nat.lt_of_lt_of_le az h.le) fun hm=>by have:=hn b hm;omega⟩
theorem uL.at{B:Nat}{w:World}{v:Value}{ps:List Pg}(h:uL B w v ps){j:Nat}{p:Pg}(hp:ps[j]?=some p):∃b q cap,v=.slice (some ⟨b,q,none⟩) ps.length cap∧b<B∧w.rangeAt b (q+j*9) (dx p):=by
 obtain⟨a,cap,hv,hm⟩:=h.ex;obtain⟨b,q,ha,az,hr⟩:=hm (by intro e;simp[e]at hp);refine⟨b,q,cap,by rw[hv,ha],az,ahg hr (j*9) ?_⟩;rw[qF (h.wf p (List.mem_of_getElem? hp))];exact wy (fun q hq=>qF (h.wf q hq)) hp
def rP(done:List Int):List Pg→Int
 |[]=>0
 |p::r=>if kQ p.1=false then 1 else if done.contains p.1 then 9 else rP (done++[p.1]) r
def sA(ps:List Pg):Int:=rP [] ps
def gF(l:List Bool):List Value:=l.map fun b=>.bool b
theorem oE(l:List Bool):(gF l).length=l.length:=by simp[gF]
theorem agW(l:List Bool):∀u∈gF l,u.oneCell'=true:=by
 intro u hu;simp only[gF,List.mem_map]at hu;obtain⟨x,_,rfl⟩:=hu;rfl
theorem M5(l:List Bool)(i:Nat)(b:Bool)(h:i<l.length):b_ (gF l) i [.bool b]=gF (l.set i b):=by
 rw[List.set_eq_take_append_cons_drop,if_pos h];simp[b_,gF,List.map_take,List.map_drop]
def ahead(done:List Int):List Bool:=(List.range 14).map fun i=>done.contains ((i:Nat):Int)
theorem Df(done:List Int):(ahead done).length=14:=by simp[ahead]
theorem V4(done:List Int){i:Int}(h:kQ i=true):(ahead done).set i.toNat true=ahead (done++[i]):=by
 simp[kQ]at h;apply List.ext_getElem
 ·simp[ahead]
 ·intro k h1 h2;simp only[List.length_set,Df]at h1;simp only[List.getElem_set,ahead,List.getElem_map,List.getElem_range];by_cases e:i.toNat=k
  ·have:i=(k:Int):=by omega
   simp[this]
  ·have:¬((k:Int)=i):=by omega
   simp[e,this]
theorem Xq(done:List Int){i:Int}(h:kQ i=true):(ahead done)[i.toNat]?=some (done.contains i):=by
 simp[kQ]at h;rw[List.getElem?_eq_getElem (by rw[Df];omega)];simp only[ahead,List.getElem_map,List.getElem_range];rw[show((i.toNat:Nat):Int)=i by omega]
theorem afx:((prog.info? 281).bind (·.zero)).map (·.cells)=some (gF (List.replicate 14 false)).toArray:=by kernel_rfl
theorem Jy:((prog.info? 337).bind (·.zero)).map (·.cells)=some (dx (0,List.replicate 8 0)).toArray:=by kernel_rfl
theorem ahi:ahead []=List.replicate 14 false:=by decide
theorem Tp{ps:List Pg}{j:Nat}{p:Pg}(hp:ps[j]?=some p):(ps.take (j+1)).map (·.1)=(ps.take j).map (·.1)++[p.1]:=by
 have az:j<ps.length:=(List.getElem?_eq_some_iff.1 hp).1;have hj:ps[j]=p:=(List.getElem?_eq_some_iff.1 hp).2;rw[List.take_succ_eq_append_getElem az,hj];simp
theorem akD{α:Type}{ps:List α}{j:Nat}{p:α}(hp:ps[j]?=some p):ps.drop j=p::ps.drop (j+1):=by
 have az:j<ps.length:=(List.getElem?_eq_some_iff.1 hp).1;have hj:ps[j]=p:=(List.getElem?_eq_some_iff.1 hp).2;rw[List.drop_eq_getElem_cons az,hj]
theorem U7{B:Nat}{w:World}{v:Value}{ps:List Pg}(h:uL B w v ps)(hlen:ps.length<1000000):aC prog 273 [v] w fun r w'=>r=.int .i64 (sA ps)∧ae [] w w':=by
 refine aG 24 func273 ?_;refine au ?_;refine aj (nD _ rfl afx ?_);have ah:ae [] w (w.alloc (.cells (gF (List.replicate 14 false)).toArray 281)):=(ae.refl _ _).alloc _;have IT:=ak.new w (gF (List.replicate 14 false)) 281;rw[←ahi]at IT ah⊢;generalize(w.alloc (.cells (gF (ahead [])).toArray 281))=w1 at*;refine au ?_;obtain⟨va,asi,hv,_⟩:=h.ex;refine ai (.int .i64 ps.length) (Bf hT (by rw[hv];rfl) w1) ?_;refine au ?_;refine cP (fun m σ w'=>∃j,m=ps.length-j∧j≤ps.length∧σ=[(3,.pointer (some ⟨w.heap.size,0,none⟩)),(6,v),(7,.int .i64 ps.length),(8,.int .i64 (j:Nat))]∧
   ae [] w w'∧ak w' w.heap.size (gF (ahead ((ps.take j).map (·.1)))) 281∧sA ps=rP ((ps.take j).map (·.1)) (ps.drop j))
  (ps.length-0) _ ?_ ⟨0,rfl,Nat.zero_le _,rfl,ah,by simpa using IT,by simp[sA]⟩ ?_
 ·exact⟨rfl,rfl,rfl,rfl,trivial⟩
 clear ah IT;rintro m σ w2 ih⟨j,hm,hj,rfl,an,Fw,hc⟩;refine au ?_;rcases Nat.lt_or_ge j ps.length with az|ij
 ·refine ai (.bool true) (bP .i64 _ _ _ rfl (by simp[bU,az]) w2) ?_;refine au ?_;obtain⟨p,hp⟩:∃p,ps[j]?=some p:=⟨ps[j],List.getElem?_eq_getElem az⟩;obtain⟨b,q,cap,tF,hb,hr⟩:=(h.keep an (by simp)).at hp;have h8:=h.wf p (List.mem_of_getElem? hp);rw[akD hp,rP]at hc;refine ai _ (A7 j hT rfl (by rw[tF];rfl) rfl rfl rfl az w2) ?_;refine ai (.agg (dx p).toArray) (h_ _ hT rfl rfl (by rw[qF h8];rfl) hr) ?_;refine aj (nD _ rfl Jy ?_);have aw:=an.alloc (.cells (dx (0,List.replicate 8 0)).toArray 337);have fX:=ak.new w2 (dx (0,List.replicate 8 0)) 337;have ha3:=Fw.alloc (.cells (dx (0,List.replicate 8 0)).toArray 337);have hn:w.heap.size≠w2.heap.size:=by have:=Fw.lt;omega
  have bw:=an.size;generalize(w2.alloc (.cells (dx (0,List.replicate 8 0)).toArray 337))=w3 at*;refine au ?_;refine aj (iL _ rfl rfl rfl rfl (by rw[qF h8];decide+kernel) fX (by rw[qF h8];decide) (FZ _) ?_);rw[nG (by rw[qF h8];rfl)];have ax:=aw.setRow w2.heap.size (dx p).toArray (.inr bw);have cy:=fX.set (dx p);have SS:=ha3.other (dx p).toArray hn;generalize(w3.setRow w2.heap.size (dx p).toArray)=w4 at*;refine au ?_;refine ai (.int .i64 p.1) (aB rfl (cy.cell rfl)) ?_;refine aj (aV rfl ((Xm p.1 _).mono ?_));rintro v' w5⟨rfl,rfl⟩;cases hb:kQ p.1 with
  |false=>
   refine au ?_;rw[if_pos hb]at hc;exact ay func273 rfl ⟨by rw[hc],ax⟩
  | true=>
   have hi:0≤p.1∧p.1<14:=by simpa[kQ]using hb
   rw[if_neg (by simp[hb])]at hc;refine au ?_;refine ai (.int .i64 p.1) (aB rfl (cy.cell rfl)) ?_;refine ai _ (nC p.1.toNat hT rfl rfl rfl rfl (by omega) (by omega) w5) ?_;refine ai (.bool (((ps.take j).map (·.1)).contains p.1)) (aB rfl (SS.cell (by rw[Nat.zero_add,Nat.mul_one];simp only[gF,List.getElem?_map,Xq _ hb];rfl))) ?_;cases hd:((ps.take j).map (·.1)).contains p.1 with
   |true=>
    rw[hd,if_pos rfl]at hc;refine au ?_;exact ay func273 rfl ⟨by rw[hc],ax⟩
   | false=>
    rw[hd,if_neg (by simp)]at hc;refine au ?_;refine ai (.int .i64 p.1) (aB rfl (cy.cell rfl)) ?_;refine ai _ (nC p.1.toNat hT rfl rfl rfl rfl (by omega) (by omega) w5) ?_;refine aj (iL [.bool true] rfl rfl rfl rfl (by decide+kernel) SS (by rw[oE,Df];simp;omega) (by simp;rfl) ?_);have e6:b_ (gF (ahead ((ps.take j).map (·.1)))) (0+p.1.toNat*1) [.bool true]=gF (ahead ((ps.take (j+1)).map (·.1))):=by
     rw[Nat.zero_add,Nat.mul_one,M5 _ _ _ (by rw[Df];omega),V4 _ hb,←Tp hp]
    rw[e6];have aD:=ax.setRow w.heap.size (gF (ahead ((ps.take (j+1)).map (·.1)))).toArray (.inr (Nat.le_refl _));have ha6:=SS.set (gF (ahead ((ps.take (j+1)).map (·.1))));generalize(w5.setRow w.heap.size (gF (ahead ((ps.take (j+1)).map (·.1)))).toArray)=w6 at*;refine au ?_;refine ai (.int .i64 ((j+1:Nat):Int)) (bP .i64 j 1 _ rfl (by simp only[bU];rw[wrap_i64 (by omega) (by omega)];rfl) w6) ?_;refine au ?_;refine bj ?_ (ih (ps.length-(j+1)) _ w6 (by omega) ⟨j+1,rfl,az,rfl,aD,ha6,by rw[Tp hp];exact hc⟩);exact⟨rfl,rfl,rfl,rfl,trivial⟩
 ·refine ai (.bool false) (bP .i64 _ _ _ rfl (by simp[bU];omega) w2) ?_;refine au ?_;refine ay func273 rfl ⟨?_,an⟩;rw[hc,List.drop_eq_nil_of_le ij];rfl
abbrev kS:=Option (Int×List Int)
def dQ(s:Nat)(N:List Int)(K:List Bool)(dv:Value):List Value:=[Value.pointer (some ⟨s,0,none⟩)]++ints N++(gF K++[dv])
def abd(e:Nat):Bool:=e==342||e==1||e==258||e==320
structure lO(B:Nat)(w w':World):Prop where
 os:w'.os=w.os
 tape:w'.tape=w.tape
 output:w'.output=w.output
 size:w.heap.size≤w'.heap.size
 low:∀k,k<B→w'.heap[k]?=w.heap[k]?
 qE:∀k L e,ak w k L e→abd e=false→ak w' k L e
theorem lO.refl(B:Nat)(w:World):lO B w w:=⟨rfl,rfl,rfl,Nat.le_refl _,fun _ _=>rfl,fun _ _ _ h _=>h⟩
theorem lO.trans{B:Nat}{w w' cg:World}(h:lO B w w')(h':lO B w' cg):lO B w cg:=
 ⟨h'.os.trans h.os,h'.tape.trans h.tape,h'.output.trans h.output,Nat.le_trans h.size h'.size,fun k hk=>(h'.low k hk).trans (h.low k hk),fun k L e hb he=>h'.qE k L e (h.qE k L e hb he) he⟩
theorem ae.tO{B:Nat}{w w':World}{fp:List Nat}(h:ae fp w w')(hB:B≤w.heap.size)(hf:∀k∈fp,B≤k∧∀L e,ak w k L e→abd e=true):lO B w w':=
 ⟨h.os,h.tape,h.output,h.size,fun k hk=>h.block k (Nat.lt_of_lt_of_le hk hB) fun hm=>by have:=(hf k hm).1;omega,fun k L e hb he=>h.af hb fun hm=>by
  rw[(hf k hm).2 L e hb]at he;cases he⟩
theorem ae.Cn{B:Nat}{w w':World}(h:ae [] w w')(hB:B≤w.heap.size):lO B w w':=h.tO hB (by simp)
theorem lO.keep{B:Nat}{w0 w w':World}(h0:ae [] w0 w)(h:lO B w w')(hB:w0.heap.size≤B):ae [] w0 w':=
 ⟨h.os.trans h0.os,h.tape.trans h0.tape,h.output.trans h0.output,Nat.le_trans h0.size h.size,fun k hk _=>(h.low k (Nat.lt_of_lt_of_le hk hB)).trans (h0.block k hk (by simp))⟩
def zT(w:World)(c:Nat)(fv:Value):kS→Prop
 |none=>∃x,fv=.func (.func 286) #[] #[.pointer (some ⟨x,0,none⟩)]∧ak w x [.pointer (some ⟨c,0,none⟩)] 334
 | some (a,ws)=>∃x y z,fv=.func (.func 288) #[] #[.pointer (some ⟨x,0,none⟩),.pointer (some ⟨y,0,none⟩),.pointer (some ⟨z,0,none⟩)]∧
   ak w x [.pointer (some ⟨c,0,none⟩)] 334∧ak w y [.int .i64 a] 2∧ak w z (ints ws) 254∧ws.length=8
theorem zT.tO{B:Nat}{w w':World}{c:Nat}{fv:Value}{d:kS}(h:zT w c fv d)(hk:lO B w w'):zT w' c fv d:=by
 cases d with
 |none=>
  obtain⟨x,h1,h2⟩:=h;exact⟨x,h1,hk.qE _ _ _ h2 (by decide)⟩
 |some p=>
  obtain⟨x,y,z,h1,h2,h3,h4,h5⟩:=h;exact⟨x,y,z,h1,hk.qE _ _ _ h2 (by decide),hk.qE _ _ _ h3 (by decide),hk.qE _ _ _ h4 (by decide),h5⟩
def Fvs(w:World)(c:Nat)(ed:List Value)(D:List kS):Prop:=∀(j:Nat) (d:kS),D[j]?=some d→∃fv,ed[j]?=some fv∧zT w c fv d
structure eh(B:Nat)(w:World)(c s:Nat)(N:List Int)(K:List Bool)(dv:Value)(ed:List Value)(D:List kS):Prop where
 af:ak w c (dQ s N K dv) 342
 base:B≤c
 iS:N.length=17
 lj:K.length=34
 own:Own w B 1 1 dv D.length ed
 fs:Fvs w c ed D
theorem Own.qE{w:World}{B e size n:Nat}{v:Value}{xs:List Value}(h:Own w B e size v n xs):∀k∈v.ownBlock.toList,∃L,ak w k L e:=by
 intro k hk;rcases h.2 with⟨rfl,_⟩|⟨g,cap,cur,rfl,hb,hg,_⟩
 ·simp[Value.ownBlock]at hk
 ·simp[Value.ownBlock]at hk;subst hk;exact⟨cur,hg⟩
theorem Bo{w:World}{k:Nat}{L L':List Value}{e e':TypeId}(h:ak w k L e)(h':ak w k L' e'):e=e':=by
 by_cases he:e=e'
 ·exact he
 ·exact absurd rfl (ak.ne h h' he)
theorem A6(A M C vs:List Value)(i:Nat)(h:i+vs.length≤M.length):b_ (A++M++C) (A.length+i) vs=A++b_ M i vs++C:=by
 unfold b_;have e1:(A++M++C).take (A.length+i)=A++M.take i:=by
  rw[List.append_assoc,List.take_length_add_append,List.take_append_of_le_length (by omega)]
 have e2:(A++M++C).drop (A.length+i+vs.length)=M.drop (i+vs.length)++C:=by
  rw[List.append_assoc,Nat.add_assoc,List.drop_length_add_append,List.drop_append_of_le_length (by omega)]
 rw[e1,e2];simp[List.append_assoc]
theorem T9(l:List Int)(i:Nat)(x:Int)(h:i<l.length):b_ (ints l) i [.int .i64 x]=ints (l.set i x):=by
 rw[List.set_eq_take_append_cons_drop,if_pos h];simp[b_,ints,List.map_take,List.map_drop]
section
variable{B:Nat}{w w':World}{c s:Nat}{N:List Int}{K:List Bool}{dv:Value}{ed:List Value}{D:List kS}
theorem Dc(hN:N.length=17)(hK:K.length=34):(dQ s N K dv).length=53:=by simp[dQ,bQ,oE,hN,hK]
theorem Nn(i:Nat)(x:Int)(h:i<N.length):b_ (dQ s N K dv) (1+i) [.int .i64 x]=dQ s (N.set i x) K dv:=by
 unfold dQ;have:=A6 [Value.pointer (some ⟨s,0,none⟩)] (ints N) (gF K++[dv]) [.int .i64 x] i (by simp[bQ];omega);rw[T9 _ _ _ h]at this;exact this
theorem aeu(hN:N.length=17)(i:Nat)(b:Bool)(h:i<K.length):b_ (dQ s N K dv) (18+i) [.bool b]=dQ s N (K.set i b) dv:=by
 unfold dQ;have:=A6 ([Value.pointer (some ⟨s,0,none⟩)]++ints N) (gF K) [dv] [.bool b] i (by simp[oE];omega);rw[M5 _ _ _ h]at this;simpa[bQ,hN,List.append_assoc]using this
theorem Ui(hN:N.length=17)(hK:K.length=34)(v_:Value):b_ (dQ s N K dv) 52 [v_]=dQ s N K v_:=by
 unfold dQ;have:=A6 ([Value.pointer (some ⟨s,0,none⟩)]++ints N++gF K) [dv] [] [v_] 0 (by simp);have e:b_ [dv] 0 [v_]=[v_]:=rfl;rw[e]at this;simpa[bQ,oE,hN,hK,List.append_assoc]using this
theorem eh.amk(h:eh B w c s N K dv ed D):w.cell? ⟨c,0,none⟩=some (.pointer (some ⟨s,0,none⟩)):=h.af.cell rfl
theorem eh.PX(h:eh B w c s N K dv ed D){i:Nat}{x:Int}(hx:N[i]?=some x):w.cell? ⟨c,1+i,none⟩=some (.int .i64 x):=h.af.cell (by
 have az:i<N.length:=(List.getElem?_eq_some_iff.1 hx).1;have gi:=(List.getElem?_eq_some_iff.1 hx).2;simp only[dQ];rw[List.getElem?_append_left (by simp[bQ];omega),List.getElem?_append_right (by simp)];simp[ints,hx])
theorem eh.aml(h:eh B w c s N K dv ed D){i:Nat}{x:Bool}(hx:K[i]?=some x):w.cell? ⟨c,18+i,none⟩=some (.bool x):=h.af.cell (by
 have az:i<K.length:=(List.getElem?_eq_some_iff.1 hx).1;simp only[dQ];rw[List.getElem?_append_right (by simp[bQ,h.iS]),List.getElem?_append_left (by simp[bQ,oE,h.iS];omega)];simp[bQ,h.iS,gF,hx])
theorem eh.PY(h:eh B w c s N K dv ed D):w.cell? ⟨c,52,none⟩=some dv:=h.af.cell (by
 simp only[dQ];rw[List.getElem?_append_right (by simp[bQ,h.iS]),List.getElem?_append_right (by simp[bQ,oE,h.iS,h.lj])];simp[bQ,oE,h.iS,h.lj])
theorem eh.Ku(h:eh B w c s N K dv ed D)(i m:Nat)(him:i+m≤17):w.rangeAt c (1+i) (ints ((N.drop i).take m)):=h.af.range (by
 have o7:=h.iS;rw[bQ,List.length_take,List.length_drop,o7,Nat.min_eq_left (by omega)];simp only[dQ];rw[List.drop_append_of_le_length (by simp[bQ,o7];omega),List.take_append_of_le_length (by simp[bQ,o7];omega),Nat.add_comm 1 i];simp[ints,List.map_take,List.map_drop])
theorem eh.ZD(h:eh B w c s N K dv ed D):∀k,dv.ownBlock=some k→k≠c:=fun k hk e=>by
 obtain⟨L,hL⟩:=h.own.qE k (by simp[hk]);subst e;exact absurd (Bo hL h.af) (by decide)
theorem eh.keep{fp:List Nat}(h:eh B w c s N K dv ed D)(hk:ae fp w w')(hf:∀k∈fp,∀L e,ak w k L e→e=258∨e=320):eh B w' c s N K dv ed D:=by
 refine⟨hk.af h.af fun hm=>?_,h.base,h.iS,h.lj,h.own.keep hk fun k e hm=>?_,fun j d hd=>?_⟩
 ·have:=hf c hm _ _ h.af
  revert this;decide
 ·obtain⟨L,hL⟩:=h.own.qE k (by simp[e]);have:=hf k hm _ _ hL
  revert this;decide
 ·obtain⟨fv,h1,h2⟩:=h.fs j d hd;refine⟨fv,h1,?_⟩;have ht:lO 0 w w':=hk.tO (Nat.zero_le _) fun k hm=>⟨Nat.zero_le _,fun L e hb=>by
   rcases hf k hm L e hb with rfl|rfl<;>decide⟩
  exact h2.tO ht
theorem eh.aA(h:eh B w c s N K dv ed D)(hk:ae [] w w'):eh B w' c s N K dv ed D:=h.keep hk (by simp)
theorem eh.put(h:eh B w c s N K dv ed D)(N':List Int)(K':List Bool)(hN:N'.length=17)(hK:K'.length=34):eh B (w.setRow c (dQ s N' K' dv).toArray) c s N' K' dv ed D∧lO B w (w.setRow c (dQ s N' K' dv).toArray)∧ae [c] w (w.setRow c (dQ s N' K' dv).toArray):=by
 have hk:ae [c] w (w.setRow c (dQ s N' K' dv).toArray):=(ae.refl _ _).setRow _ _ (.inl (by simp));have hB:B≤w.heap.size:=Nat.le_trans h.base (Nat.le_of_lt h.af.lt);have ht:lO B w (w.setRow c (dQ s N' K' dv).toArray):=hk.tO hB fun k hm=>by
  simp at hm;subst hm;exact⟨h.base,fun L e hb=>by rw[Bo hb h.af];decide⟩
 refine⟨⟨h.af.set _,h.base,hN,hK,h.own.keep hk fun k e=>by simpa using h.ZD k e,fun j d hd=>?_⟩,ht,hk⟩;obtain⟨fv,h1,h2⟩:=h.fs j d hd;exact⟨fv,h1,h2.tO ht⟩
end
def k_(K:List Bool)(a:Int):List Bool:=if hasB a then K.set a.toNat true else K
theorem I5(K:List Bool)(a:Int):(k_ K a).length=K.length:=by unfold k_;split<;>simp
theorem JT{B:Nat}{w:World}{c s:Nat}{N:List Int}{K:List Bool}{dv:Value}{ed:List Value}{D:List kS}(h:eh B w c s N K dv ed D)(a:Int):aC prog 283 [.pointer (some ⟨c,0,none⟩),.int .i64 a] w fun v w'=>v=.tuple #[]∧eh B w' c s N (k_ K a) dv ed D∧lO B w w':=by
 refine aG 11 func283 ?_;refine au ?_;refine aj (aV rfl ((Oc a _).mono ?_));rintro v w1⟨rfl,rfl⟩;cases hb:hasB a with
 |false=>
  refine au ?_;exact bK func283 rfl ⟨rfl,by rw[k_,hb];exact h,lO.refl _ _⟩
 | true=>
  have hi:0≤a∧a<34:=by simpa[hasB]using hb
  refine au ?_;refine ai _ (nC a.toNat hT rfl rfl rfl rfl (by omega) (by omega) w1) ?_;refine aj (iL [.bool true] rfl rfl rfl rfl (by decide+kernel) h.af (by rw[Dc h.iS h.lj];simp;omega) (by simp;rfl) ?_);have e:b_ (dQ s N K dv) (0+18+a.toNat*1) [.bool true]=dQ s N (k_ K a) dv:=by
   rw[Nat.zero_add,Nat.mul_one,aeu h.iS _ _ (by rw[h.lj];omega),k_,hb];rfl
  rw[e];refine au ?_;obtain⟨h1,h2,_⟩:=h.put N (k_ K a) h.iS (by rw[I5,h.lj]);exact bK func283 rfl ⟨rfl,h1,h2⟩
theorem ajb{B:Nat}{w:World}{c s x:Nat}{N:List Int}{K:List Bool}{dv:Value}{ed:List Value}{D:List kS}(h:eh B w c s N K dv ed D)(hx:ak w x [.pointer (some ⟨c,0,none⟩)] 334)(j:Nat)(hj:j<34):aC prog 285 [.int .i64 (j:Nat),.pointer (some ⟨x,0,none⟩)] w fun v w'=>v=.bool (!K.getD j false)∧w'=w:=by
 refine aG 11 func285 ?_;refine au ?_;refine ai (.pointer (some ⟨c,0,none⟩)) (aB rfl (hx.cell rfl)) ?_;refine au ?_;refine ai _ (nC j hT rfl rfl rfl rfl rfl hj w) ?_;have hc:=h.aml (i:=j) (x:=K.getD j false) (by rw[List.getD_eq_getElem?_getD,List.getElem?_eq_getElem (by rw[h.lj];exact hj)];rfl);refine ai (.bool (K.getD j false)) (aB rfl (by rw[Nat.zero_add,Nat.mul_one];exact hc)) ?_;refine au ?_;exact ay func285 rfl ⟨rfl,rfl⟩
def zB(f:Nat→Bool):Nat:=((List.range 34).find? f).getD 0
theorem adN{f:Nat→Bool}{j:Nat}(hj:j<34)(h:∀k,k<j→f k=false)(hf:f j=true):zB f=j:=by
 have:(List.range 34).find? f=some j:=by
  rw[List.find?_range_eq_some];exact⟨hf,List.mem_range.2 hj,fun k hk=>by simp[h k hk]⟩
 simp[zB,this]
theorem adO{f:Nat→Bool}(h:∀k,k<34→f k=false):zB f=0:=by
 have:(List.range 34).find? f=none:=by
  rw[List.find?_eq_none];intro k hk;simp[h k (List.mem_range.1 hk)]
 simp[zB,this]
theorem ahj{w:World}(f:Nat→Bool)(g:Nat)(cap:List Value)(hg:pd prog g=true)(Qh:∀j,j<34→aC prog g (.int .i64 (j:Nat)::cap) w fun v w'=>v=.bool (f j)∧w'=w):aC prog 284 [.func (.func g) #[] cap.toArray] w fun v w'=>v=.int .i64 (zB f:Nat)∧w'=w:=by
 refine aG 12 func284 ?_;refine au ?_;refine cP (fun m σ w'=>∃j,m=34-j∧j≤34∧σ=[(0,.func (.func g) #[] cap.toArray),(4,.int .i64 (j:Nat))]∧w'=w∧∀k,k<j→f k=false)
  (34-0) _ ?_ ⟨0,rfl,by decide,rfl,rfl,by simp⟩ ?_
 ·exact⟨rfl,rfl,trivial⟩
 rintro m σ w2 ih⟨j,hm,hj,rfl,rfl,ku⟩;refine au ?_;rcases Nat.lt_or_ge j 34 with az|ij
 ·refine ai (.bool true) (bP .i64 _ _ _ rfl (by simp[bU];omega) w2) ?_;refine au ?_;refine aj (rK rfl rfl rfl rfl hg ((Qh j az).mono ?_));rintro v w3⟨rfl,rfl⟩;cases hf:f j with
  |true=>
   refine au ?_;exact ay func284 rfl ⟨by rw[adN az ku hf],rfl⟩
  | false=>
   refine au ?_;refine ai (.int .i64 ((j+1:Nat):Int)) (bP .i64 j 1 _ rfl (by simp only[bU];rw[wrap_i64 (by omega) (by omega)];rfl) w3) ?_;refine au ?_;refine bj ?_ (ih (34-(j+1)) _ w3 (by omega) ⟨j+1,rfl,az,rfl,rfl,fun k hk=>?_⟩)
   ·exact⟨rfl,rfl,trivial⟩
   ·rcases Nat.lt_or_ge k j with h|h
    ·exact ku k h
    ·have:k=j:=by omega
     rw[this];exact hf
 ·refine ai (.bool false) (bP .i64 _ _ _ rfl (by simp[bU];omega) w2) ?_;refine au ?_;exact ay func284 rfl ⟨by rw[adO fun k hk=>ku k (by omega)];rfl,rfl⟩
theorem U8{s:Nat}{N:List Int}{K:List Bool}{dv:Value}(hN:N.length=17)(hK:K.length=34):(dQ s N K dv)[0+52]?=some dv:=by
 simp only[dQ];rw[List.getElem?_append_right (by simp[bQ,hN]),List.getElem?_append_right (by simp[bQ,oE,hN,hK])];simp[bQ,oE,hN,hK]
theorem eh.abe{B:Nat}{w w1:World}{c s g:Nat}{N:List Int}{K:List Bool}{dv:Value}{ed:List Value}{D:List kS}(h:eh B w c s N K dv ed D) (gy:(dv.ownBlock=some g∧D.length+1≤sK dv∧ae [g] w w1)∨(g=w.heap.size∧ae [] w w1∧w1.heap.size=w.heap.size+1)):lO B w w1:=by
 have hB:B≤w.heap.size:=Nat.le_trans h.base (Nat.le_of_lt h.af.lt);rcases gy with⟨e,_,hk⟩|⟨e,hk,_⟩
 ·refine hk.tO hB fun k hm=>?_;simp at hm;subst hm;obtain⟨L,hL⟩:=h.own.qE k (by simp[e]);exact⟨(h.own.lt k e).1,fun L' e' hb=>by rw[Bo hb hL];decide⟩
 ·exact hk.Cn hB
theorem eh.app{B:Nat}{w w1:World}{c s g cap:Nat}{N:List Int}{K:List Bool}{dv fv:Value}{ed:List Value}{D:List kS}{d:kS}(h:eh B w c s N K dv ed D)(hd:zT w c fv d) (bW:Own w1 B 1 1 (.slice (some ⟨g,0,none⟩) (D.length+1) cap) (D.length+1) (ed++[fv])) (gy:(dv.ownBlock=some g∧D.length+1≤sK dv∧ae [g] w w1)∨(g=w.heap.size∧ae [] w w1∧w1.heap.size=w.heap.size+1)):ak w1 c (dQ s N K dv) 342∧eh B (w1.setRow c (dQ s N K (.slice (some ⟨g,0,none⟩) (D.length+1) cap)).toArray) c s N K (.slice (some ⟨g,0,none⟩) (D.length+1) cap) (ed++[fv]) (D++[d])∧lO B w (w1.setRow c (dQ s N K (.slice (some ⟨g,0,none⟩) (D.length+1) cap)).toArray):=by
 have hB:B≤w.heap.size:=Nat.le_trans h.base (Nat.le_of_lt h.af.lt);obtain⟨hk,k5⟩:ae [g] w w1∧lO B w w1:=by
  rcases gy with⟨e,_,hk⟩|⟨e,hk,_⟩
  ·refine⟨hk,hk.tO hB fun k hm=>?_⟩;simp at hm;subst hm;obtain⟨L,hL⟩:=h.own.qE k (by simp[e]);exact⟨(h.own.lt k e).1,fun L' e' hb=>by rw[Bo hb hL];decide⟩
  ·exact⟨hk.bG,hk.Cn hB⟩
 have hcg:c≠g:=by
  rcases gy with⟨e,_,_⟩|⟨e,_,_⟩
  ·exact fun h'=>h.ZD g e h'.symm
  ·have:=h.af.lt;omega
 have aM:ak w1 c (dQ s N K dv) 342:=hk.af h.af (by simpa using hcg);have an:ae [c] w1 (w1.setRow c (dQ s N K (.slice (some ⟨g,0,none⟩) (D.length+1) cap)).toArray):=(ae.refl _ _).setRow _ _ (.inl (by simp));have jS:lO B w1 (w1.setRow c (dQ s N K (.slice (some ⟨g,0,none⟩) (D.length+1) cap)).toArray):=an.tO (Nat.le_trans hB hk.size) fun k hm=>by
  simp at hm;subst hm;exact⟨h.base,fun L e hb=>by rw[Bo hb aM];decide⟩
 refine⟨aM,⟨aM.set _,h.base,h.iS,h.lj,?_,?_⟩,k5.trans jS⟩
 ·have:=bW.keep an (fun k e=>by simp[Value.ownBlock]at e;subst e;simpa using Ne.symm hcg);simpa using this
 ·intro j d' hj;have hlen:ed.length=D.length:=by simpa using h.own.1
  rcases Nat.lt_or_ge j D.length with az|ij
  ·rw[List.getElem?_append_left az]at hj;obtain⟨fv',h1,h2⟩:=h.fs j d' hj;exact⟨fv',by rw[List.getElem?_append_left (by omega)];exact h1,(h2.tO k5).tO jS⟩
  ·rw[List.getElem?_append_right ij]at hj;have h0:j-D.length=0:=by
    rcases Nat.eq_zero_or_pos (j-D.length)with h0|h0
    ·exact h0
    ·rw[List.getElem?_eq_none (by simp;omega)]at hj;cases hj
   rw[h0]at hj;simp at hj;subst hj;exact⟨fv,by rw[List.getElem?_append_right (by omega),hlen,h0];rfl,(hd.tO k5).tO jS⟩
theorem U9(fv:Value)(h:fv.oneCell'=true):kE prog 340 1 [(0,fv)]=some (1,[fv].toArray):=by
 cases fv<;>first|(cases h;done)|kernel_rfl
theorem U_{B:Nat}{w:World}{c s:Nat}{N:List Int}{K:List Bool}{dv:Value}{ed:List Value}{D:List kS}(h:eh B w c s N K dv ed D)(hD:D.length<1000):aC prog 277 [.pointer (some ⟨c,0,none⟩)] w fun v w'=>v=.tuple #[]∧(∃v_ Hz,eh B w' c s N K v_ Hz (D++[none]))∧lO B w w':=by
 refine aG 12 func277 ?_;refine au ?_;refine aj (qG [.pointer (some ⟨c,0,none⟩)] rfl rfl rfl ?_);have hB:B≤w.heap.size:=Nat.le_trans h.base (Nat.le_of_lt h.af.lt);have ah:ae [] w (w.alloc (.cells [Value.pointer (some ⟨c,0,none⟩)].toArray 334)):=(ae.refl _ _).alloc _;have cJ:=ak.new w [Value.pointer (some ⟨c,0,none⟩)] 334;have k5:=ah.Cn hB;have h1:=h.aA ah;generalize(w.alloc (.cells [Value.pointer (some ⟨c,0,none⟩)].toArray 334))=w1 at*;have ny:B≤w1.heap.size:=Nat.le_trans hB k5.size;generalize w.heap.size=x at cJ;refine au ?_;have pW:ak w1.drew x [.pointer (some ⟨c,0,none⟩)] 334∧ak w1.drew c (dQ s N K dv) 342:=⟨cJ,h1.af⟩;have kV:∀w',ak w' c (dQ s N K dv) 342→w'.cell? ⟨c,0+52,none⟩=some dv:=fun w' hb=>hb.cell (U8 h.iS h.lj);refine bC (fun w'=>ak w' x [.pointer (some ⟨c,0,none⟩)] 334∧ak w' c (dQ s N K dv) 342) [10] bE ?_;refine aI 0 (.pointer (some ⟨c,0,none⟩)) rfl (fun w' hk=>aB rfl (hk.1.cell rfl)) pW ?_;refine aI 1 (.pointer (some ⟨c,0,none⟩)) rfl (fun w' hk=>aB rfl (hk.1.cell rfl)) pW ?_;refine tk 2 ?_;refine tk 3 ?_;refine aI 4 dv rfl (fun w' hk=>aB rfl (kV w' hk.2)) pW ?_;refine tk 5 ?_;refine a8 6 rfl (Da _ [_] rfl rfl (U9 _ rfl) ⟨fun _=>⟨pW.1.alloc _,pW.2.alloc _⟩,?_⟩);have an:=((ae.refl [] w1).drew).alloc (.cells [Value.func (.func 286) #[] #[.pointer (some ⟨x,0,none⟩)]].toArray 1);have AH:=ak.new w1.drew [Value.func (.func 286) #[] #[.pointer (some ⟨x,0,none⟩)]] 1;have h2:=h1.aA an;have gi:=an.af cJ (by simp);have jS:=an.Cn ny;have nk:B≤(w1.drew.alloc (.cells [Value.func (.func 286) #[] #[.pointer (some ⟨x,0,none⟩)]].toArray 1)).heap.size:=Nat.le_trans ny jS.size;have hd:zT (w1.drew.alloc (.cells [Value.func (.func 286) #[] #[.pointer (some ⟨x,0,none⟩)]].toArray 1)) c (Value.func (.func 286) #[] #[.pointer (some ⟨x,0,none⟩)]) none:=⟨x,rfl,gi⟩;refine a8 7 rfl (ja B 1 1 8 ed [Value.func (.func 286) #[] #[.pointer (some ⟨x,0,none⟩)]] rfl rfl rfl (by decide+kernel) h2.own (AH.range rfl) rfl (by simp;rfl) (by decide) (by unfold maxLen;omega) (by omega) nk ?_);intro g cap w3 bW gy;obtain⟨aQ,h4,kf⟩:=h2.app hd bW gy;have fY:=h2.abe gy;refine⟨fun _=>⟨fY.qE _ _ _ gi (by decide),aQ⟩,?_⟩;refine tk 8 ?_;refine tk 9 ?_;refine a8 10 rfl (iL _ rfl rfl rfl rfl (by kernel_rfl) aQ (by rw[Dc h.iS h.lj];simp) (by simp;rfl) ⟨fun hn=>absurd (by simp) hn,?_⟩);rw[show b_ (dQ s N K dv) (0+52) [Value.slice (some ⟨g,0,none⟩) (D.length+1) cap]=dQ s N K (.slice (some ⟨g,0,none⟩) (D.length+1) cap) from Ui h.iS h.lj _];refine bm ?_;exact bK func277 rfl ⟨rfl,⟨_,_,h4⟩,(k5.trans jS).trans kf⟩
theorem Va{B:Nat}{w:World}{c s:Nat}{N:List Int}{K:List Bool}{dv:Value}{ed:List Value}{D:List kS}(h:eh B w c s N K dv ed D)(hD:D.length<1000)(a:Int){ws:List Int}(hw:ws.length=8):aC prog 278 [.pointer (some ⟨c,0,none⟩),.int .i64 a,.agg (ints ws).toArray] w fun v w'=>v=.tuple #[]∧(∃v_ Hz,eh B w' c s N K v_ Hz (D++[some (a,ws)]))∧lO B w w':=by
 refine aG 16 func278 ?_;refine au ?_;refine aj (qG [.pointer (some ⟨c,0,none⟩)] rfl rfl rfl ?_);refine aj (qG [.int .i64 a] rfl rfl rfl ?_);refine aj (qG (ints ws) rfl rfl rfl ?_);have hB:B≤w.heap.size:=Nat.le_trans h.base (Nat.le_of_lt h.af.lt);rw[World.size_alloc,World.size_alloc,World.size_alloc];have ah:ae [] w (((w.alloc (.cells [Value.pointer (some ⟨c,0,none⟩)].toArray 334)).alloc (.cells [Value.int .i64 a].toArray 2)).alloc (.cells (ints ws).toArray 254)):=(((ae.refl _ _).alloc _).alloc _).alloc _;have cJ:=((ak.new w [Value.pointer (some ⟨c,0,none⟩)] 334).alloc (.cells [Value.int .i64 a].toArray 2)).alloc (.cells (ints ws).toArray 254);have Iw:=(ak.new (w.alloc (.cells [Value.pointer (some ⟨c,0,none⟩)].toArray 334)) [Value.int .i64 a] 2).alloc (.cells (ints ws).toArray 254);have gl:=ak.new ((w.alloc (.cells [Value.pointer (some ⟨c,0,none⟩)].toArray 334)).alloc (.cells [Value.int .i64 a].toArray 2)) (ints ws) 254;rw[World.size_alloc]at Iw gl;rw[World.size_alloc]at gl;have k5:=ah.Cn hB;have h1:=h.aA ah;generalize(((w.alloc (.cells [Value.pointer (some ⟨c,0,none⟩)].toArray 334)).alloc (.cells [Value.int .i64 a].toArray 2)).alloc (.cells (ints ws).toArray 254))=w1 at*;have ny:B≤w1.heap.size:=Nat.le_trans hB k5.size;generalize w.heap.size+1+1=z at gl⊢;generalize w.heap.size+1=y at Iw⊢;generalize w.heap.size=x at cJ;refine au ?_;have pW:ak w1.drew x [.pointer (some ⟨c,0,none⟩)] 334∧ak w1.drew c (dQ s N K dv) 342:=⟨cJ,h1.af⟩;have kV:∀w',ak w' c (dQ s N K dv) 342→w'.cell? ⟨c,0+52,none⟩=some dv:=fun w' hb=>hb.cell (U8 h.iS h.lj);refine bC (fun w'=>ak w' x [.pointer (some ⟨c,0,none⟩)] 334∧ak w' c (dQ s N K dv) 342) [10] bE ?_;refine aI 0 (.pointer (some ⟨c,0,none⟩)) rfl (fun w' hk=>aB rfl (hk.1.cell rfl)) pW ?_;refine aI 1 (.pointer (some ⟨c,0,none⟩)) rfl (fun w' hk=>aB rfl (hk.1.cell rfl)) pW ?_;refine tk 2 ?_;refine tk 3 ?_;refine aI 4 dv rfl (fun w' hk=>aB rfl (kV w' hk.2)) pW ?_;refine tk 5 ?_;refine a8 6 rfl (Da _ [_] rfl rfl (U9 _ rfl) ⟨fun _=>⟨pW.1.alloc _,pW.2.alloc _⟩,?_⟩);have an:=((ae.refl [] w1).drew).alloc (.cells [Value.func (.func 288) #[] #[.pointer (some ⟨x,0,none⟩),.pointer (some ⟨y,0,none⟩),.pointer (some ⟨z,0,none⟩)]].toArray 1);have AH:=ak.new w1.drew [Value.func (.func 288) #[] #[.pointer (some ⟨x,0,none⟩),.pointer (some ⟨y,0,none⟩),.pointer (some ⟨z,0,none⟩)]] 1;have h2:=h1.aA an;have gi:=an.af cJ (by simp);have jS:=an.Cn ny;have nk:B≤(w1.drew.alloc (.cells [Value.func (.func 288) #[] #[.pointer (some ⟨x,0,none⟩),.pointer (some ⟨y,0,none⟩),.pointer (some ⟨z,0,none⟩)]].toArray 1)).heap.size:=Nat.le_trans ny jS.size;have hd:zT (w1.drew.alloc (.cells [Value.func (.func 288) #[] #[.pointer (some ⟨x,0,none⟩),.pointer (some ⟨y,0,none⟩),.pointer (some ⟨z,0,none⟩)]].toArray 1)) c (Value.func (.func 288) #[] #[.pointer (some ⟨x,0,none⟩),.pointer (some ⟨y,0,none⟩),.pointer (some ⟨z,0,none⟩)]) (some (a,ws)):=⟨x,y,z,rfl,gi,an.af Iw (by simp),an.af gl (by simp),hw⟩;refine a8 7 rfl (ja B 1 1 8 ed [Value.func (.func 288) #[] #[.pointer (some ⟨x,0,none⟩),.pointer (some ⟨y,0,none⟩),.pointer (some ⟨z,0,none⟩)]] rfl rfl rfl (by decide+kernel) h2.own (AH.range rfl) rfl (by simp;rfl) (by decide) (by unfold maxLen;omega) (by omega) nk ?_);intro g cap w3 bW gy;obtain⟨aQ,h4,kf⟩:=h2.app hd bW gy;have fY:=h2.abe gy;refine⟨fun _=>⟨fY.qE _ _ _ gi (by decide),aQ⟩,?_⟩;refine tk 8 ?_;refine tk 9 ?_;refine a8 10 rfl (iL _ rfl rfl rfl rfl (by kernel_rfl) aQ (by rw[Dc h.iS h.lj];simp) (by simp;rfl) ⟨fun hn=>absurd (by simp) hn,?_⟩);rw[show b_ (dQ s N K dv) (0+52) [Value.slice (some ⟨g,0,none⟩) (D.length+1) cap]=dQ s N K (.slice (some ⟨g,0,none⟩) (D.length+1) cap) from Ui h.iS h.lj _];refine bm ?_;exact bK func278 rfl ⟨rfl,⟨_,_,h4⟩,(k5.trans jS).trans kf⟩
def eF(K:List Bool):Nat:=zB fun i=>!K.getD i false
theorem Yq{B:Nat}{w:World}{c s:Nat}{N:List Int}{K:List Bool}{dv:Value}{ed:List Value}{D:List kS}(h:eh B w c s N K dv ed D)(hD:D.length<1000){ws:List Int}(hw:ws.length=8):aC prog 275 [.pointer (some ⟨c,0,none⟩),.agg (ints ws).toArray] w fun v w'=>v=.int .i64 (eF K:Nat)∧(∃v_ Hz,eh B w' c s N (k_ K (eF K:Nat)) v_ Hz (D++[some (((eF K:Nat):Int),ws)]))∧lO B w w':=by
 refine aG 16 func275 ?_;refine au ?_;refine aj (qG [.pointer (some ⟨c,0,none⟩)] rfl rfl rfl ?_);refine aj (qG (ints ws) rfl rfl rfl ?_);have hB:B≤w.heap.size:=Nat.le_trans h.base (Nat.le_of_lt h.af.lt);rw[World.size_alloc];have ah:ae [] w ((w.alloc (.cells [Value.pointer (some ⟨c,0,none⟩)].toArray 334)).alloc (.cells (ints ws).toArray 254)):=((ae.refl _ _).alloc _).alloc _;have cJ:=(ak.new w [Value.pointer (some ⟨c,0,none⟩)] 334).alloc (.cells (ints ws).toArray 254);have gl:=ak.new (w.alloc (.cells [Value.pointer (some ⟨c,0,none⟩)].toArray 334)) (ints ws) 254;rw[World.size_alloc]at gl;have k5:=ah.Cn hB;have h1:=h.aA ah;generalize((w.alloc (.cells [Value.pointer (some ⟨c,0,none⟩)].toArray 334)).alloc (.cells (ints ws).toArray 254))=w1 at*;generalize w.heap.size+1=z at gl⊢;generalize w.heap.size=x at cJ;refine au ?_;refine aj (aV rfl ((ahj (fun i=>!K.getD i false) 285 [.pointer (some ⟨x,0,none⟩)] (by decide+kernel) fun j hj=>ajb h1 cJ j hj).mono ?_));rintro v w2⟨rfl,rfl⟩;rw[show(zB fun i=>!K.getD i false)=eF K from rfl];refine au ?_;refine ai (.pointer (some ⟨c,0,none⟩)) (aB rfl (cJ.cell rfl)) ?_;refine au ?_;refine aj (aV rfl ((JT h1 (eF K:Nat)).mono ?_));rintro v w3⟨rfl,h3,fY⟩;have fX:=fY.qE _ _ _ cJ (by decide);have fe:=fY.qE _ _ _ gl (by decide);refine au ?_;refine ai (.pointer (some ⟨c,0,none⟩)) (aB rfl (fX.cell rfl)) ?_;refine au ?_;refine ai (.agg (ints ws).toArray) (h_ _ hT rfl rfl (by rw[bQ,hw];rfl) (fe.range (by simp))) ?_;refine aj (aV rfl ((Va h3 hD (eF K:Nat) hw).mono ?_));rintro v w4⟨rfl,h4,kf⟩;refine au ?_;exact ay func275 rfl ⟨rfl,h4,(k5.trans fY).trans kf⟩
def mV(N:List Int)(j:Nat):List Int:=(((N.drop (3+j*8)).take (14-j*8))++z8).take 8
def rV(N:List Int):List Int:=[N.getD 0 0,N.getD 1 0,N.getD 2 0,0,0,0,0,0]
theorem Kv{l:List Int}(h:l.length=17):∃a b c d e f g i j k m n o p q r s,l=[a,b,c,d,e,f,g,i,j,k,m,n,o,p,q,r,s]:=by
 match l,h with
 |[a,b,c,d,e,f,g,i,j,k,m,n,o,p,q,r,s],_=>exact⟨a,b,c,d,e,f,g,i,j,k,m,n,o,p,q,r,s,rfl⟩
theorem I6{N:List Int}(_:N.length=17)(j:Nat):(mV N j).length=8:=by
 simp[mV,z8]
section
variable{B:Nat}{w:World}{c s:Nat}{N:List Int}{K:List Bool}{dv:Value}{ed:List Value}{D:List kS}
theorem adh(h:eh B w c s N K dv ed D)(j:Nat)(hj:j<2):aC prog 276 [.pointer (some ⟨c,1,none⟩),.int .i64 (j:Nat)] w fun v w'=>v=.agg (ints (mV N j)).toArray∧ae [] w w':=by
 refine aG 15 func276 ?_;refine au ?_;refine aj (nD _ rfl wj ?_);refine au ?_;refine aj (nD _ rfl wj ?_);rw[World.size_alloc];have ah:ae [] w ((w.alloc (.cells (ints (List.replicate 8 0)).toArray 254)).alloc (.cells (ints (List.replicate 8 0)).toArray 254)):=((ae.refl _ _).alloc _).alloc _;have fh:=(ak.new w (ints (List.replicate 8 0)) 254).alloc (.cells (ints (List.replicate 8 0)).toArray 254);have cJ:=ak.new (w.alloc (.cells (ints (List.replicate 8 0)).toArray 254)) (ints (List.replicate 8 0)) 254;rw[World.size_alloc]at cJ;have h1:=h.aA ah;generalize((w.alloc (.cells (ints (List.replicate 8 0)).toArray 254)).alloc (.cells (ints (List.replicate 8 0)).toArray 254))=w1 at*;refine au ?_;refine bC (fun _=>True) [] bE ?_;refine bD 0 _ rfl (fun w'=>A1 hT rfl rfl rfl w') ?_;refine tk 1 ?_;refine tk 2 ?_;refine tk 3 ?_;refine tk 4 ?_;refine bD 5 (.int .i64 ((j*8:Nat):Int)) rfl (fun w'=>bP .i64 j 8 _ rfl (by simp only[bU];rw[wrap_i64 (by omega) (by omega)];simp) w') ?_;refine bD 6 _ rfl (fun w'=>C_ (j*8) hT rfl rfl rfl rfl rfl (by omega) w') ?_;have hn:=h.iS;have ek:(((N.drop (3+j*8)).take (14-j*8)).take 8).length=Nat.min (14-j*8) 8:=by
  rw[List.length_take,List.length_take,List.length_drop,hn];simp only[Nat.min_def]
  repeat' split
  all_goals omega
 refine a8 7 rfl (Dq (ints (((N.drop (3+j*8)).take (14-j*8)).take 8)) rfl rfl rfl (by decide+kernel) cJ.drew (by rw[bQ,ek]) ?_ (by rw[bQ,ek];simp only[bQ,List.length_replicate,Nat.zero_add];exact Nat.min_le_right _ _) (k6 _) fun r=>⟨fun _=>trivial,?_⟩)
 ·have:=(h1.aA ((ae.refl [] w1).drew)).Ku (3+j*8) (14-j*8) (by omega);refine TL (cs:=ints ((N.drop (3+j*8)).take (14-j*8))) ?_ ?_
  ·have e:1+(3+j*8)=1+3+j*8*1:=by omega
   rw[←e];exact this
  ·rw[bQ,ek];simp only[ints,List.map_take];rw[List.take_take,List.take_take];apply List.take_eq_take_iff.2;simp only[List.length_map,List.length_drop,hn];simp only[Nat.min_def]
   repeat' split
   all_goals omega
 refine bm ?_;have e:b_ (ints (List.replicate 8 0)) 0 (ints (((N.drop (3+j*8)).take (14-j*8)).take 8))=ints (mV N j):=by
  have tN:j=0∨j=1:=by omega
  obtain⟨a,b,c,d,e,f,g,i,j,k,m,n,o,p,q,r,s,rfl⟩:=Kv hn;rcases tN with rfl|rfl<;>rfl
 rw[e];have h8:=I6 hn j;have gi:=cJ.drew.set (ints (mV N j));have dO:=fh.drew.other (ints (mV N j)).toArray (c:=w.heap.size+1) (by omega);have an:=(ah.drew).setRow (w.heap.size+1) (ints (mV N j)).toArray (.inr (by omega));generalize(w1.drew.setRow (w.heap.size+1) (ints (mV N j)).toArray)=w2 at*;refine au ?_;refine ai (.agg (ints (mV N j)).toArray) (h_ _ hT rfl rfl (by rw[bQ,h8];rfl) (gi.range (by simp))) ?_;refine aj (iL _ rfl rfl rfl rfl (by rw[bQ,h8];decide+kernel) dO (by rw[bQ,h8];decide) (k6 _) ?_);rw[nG (by rw[bQ,h8];rfl)];refine au ?_;exact df func276 (.inr (.inr (.inl ⟨_,_,_,rfl,rfl,wh hT (cs:=ints (mV N j)) (by rw[bQ,h8];rfl) ((dO.set _).range (by simp))⟩))) ⟨rfl,an.setRow _ _ (.inr (Nat.le_refl _))⟩
theorem afy(h:eh B w c s N K dv ed D):aC prog 279 [.pointer (some ⟨c,1,none⟩)] w fun v w'=>v=.int .i64 ((N.getD 0 0).tmod 2)∧w'=w:=by
 refine aG 8 func279 ?_;refine au ?_;have hc:=h.PX (i:=0) (x:=N.getD 0 0) (by rw[List.getD_eq_getElem?_getD,List.getElem?_eq_getElem (by rw[h.iS];decide)];rfl);refine ai (.int .i64 (N.getD 0 0)) (aB rfl hc) ?_;refine ai (.int .i64 ((N.getD 0 0).tmod 2)) (bP .i64 _ 2 _ rfl (by simp[bU]) w) ?_;refine au ?_;exact ay func279 rfl ⟨rfl,rfl⟩
theorem afz(g:Int):prog.built 254 [(0,Value.int .i64 g)]=some (ints [g,0,0,0,0,0,0,0]).toArray:=by kernel_rfl
theorem adi(h:eh B w c s N K dv ed D):aC prog 280 [.pointer (some ⟨c,1,none⟩)] w fun v w'=>v=.agg (ints (rV N)).toArray∧ae [] w w':=by
 refine aG 16 func280 ?_;refine au ?_;refine aj (nD _ rfl wj ?_);have ah:ae [] w (w.alloc (.cells (ints (List.replicate 8 0)).toArray 254)):=(ae.refl _ _).alloc _;have fh:=ak.new w (ints (List.replicate 8 0)) 254;have h1:=h.aA ah;generalize(w.alloc (.cells (ints (List.replicate 8 0)).toArray 254))=w1 at*;refine au ?_;have hn:=h.iS;have hc:=h1.PX (i:=0) (x:=N.getD 0 0) (by rw[List.getD_eq_getElem?_getD,List.getElem?_eq_getElem (by rw[h.iS];decide)];rfl);refine ai (.int .i64 (N.getD 0 0)) (aB rfl hc) ?_;refine ai _ (bL _ rfl rfl (afz _) w1) ?_;refine aj (nD _ rfl wj ?_);have an:=ah.alloc (.cells (ints (List.replicate 8 0)).toArray 254);have dO:=fh.alloc (.cells (ints (List.replicate 8 0)).toArray 254);have gi:=ak.new w1 (ints (List.replicate 8 0)) 254;have bS:w.heap.size≠w1.heap.size:=by have:=fh.lt;omega
 have bw:=ah.size;generalize(w1.alloc (.cells (ints (List.replicate 8 0)).toArray 254))=w2 at*;refine au ?_;refine aj (iL _ rfl rfl rfl rfl (by kernel_rfl) gi (by simp[ints]) (k6 _) ?_);rw[nG (show(ints [N.getD 0 0,0,0,0,0,0,0,0]).length=(ints (List.replicate 8 0)).length from rfl)];have aw:=an.setRow w1.heap.size (ints [N.getD 0 0,0,0,0,0,0,0,0]).toArray (.inr bw);have fX:=gi.set (ints [N.getD 0 0,0,0,0,0,0,0,0]);have uK:=dO.other (ints [N.getD 0 0,0,0,0,0,0,0,0]).toArray bS;have h3:=h.aA aw;generalize(w2.setRow w1.heap.size (ints [N.getD 0 0,0,0,0,0,0,0,0]).toArray)=w3 at*;refine au ?_;refine bC (fun _=>True) [] bE ?_;refine bD 0 _ rfl (fun w'=>C_ 1 hT rfl rfl rfl rfl rfl (by decide) w') ?_;refine tk 1 ?_;refine tk 2 ?_;refine tk 3 ?_;refine bD 4 _ rfl (fun w'=>A1 hT rfl rfl rfl w') ?_;have ek:((N.drop 1).take 2).length=2:=by simp[hn]
 refine a8 5 rfl (Dq (ints ((N.drop 1).take 2)) rfl rfl rfl (by decide+kernel) fX.drew (by rw[bQ,ek];rfl) ((h3.aA ((ae.refl [] w3).drew)).Ku 1 2 (by decide)) (by rw[bQ,ek];simp[ints]) (k6 _) fun r=>⟨fun _=>trivial,?_⟩);refine bm ?_;have e:b_ (ints [N.getD 0 0,0,0,0,0,0,0,0]) (0+1*1) (ints ((N.drop 1).take 2))=ints (rV N):=by
  obtain⟨a,b,c,d,e,f,g,i,j,k,m,n,o,p,q,r,s,rfl⟩:=Kv hn;rfl
 rw[e];have cy:=fX.drew.set (ints (rV N));have jy:=uK.drew.other (ints (rV N)).toArray bS;have ax:=(aw.drew).setRow w1.heap.size (ints (rV N)).toArray (.inr bw);generalize(w3.drew.setRow w1.heap.size (ints (rV N)).toArray)=w4 at*;refine au ?_;refine ai (.agg (ints (rV N)).toArray) (bF _ rfl (cy.range (by simp))) ?_;refine aj (iL _ rfl rfl rfl rfl (by kernel_rfl) jy (by simp[ints,rV]) (k6 _) ?_);rw[nG (show(ints (rV N)).length=(ints (List.replicate 8 0)).length from rfl)];refine au ?_;exact df func280 (.inr (.inr (.inl ⟨_,_,_,rfl,rfl,wh hT (cs:=ints (rV N)) rfl ((jy.set _).range (by simp))⟩))) ⟨rfl,ax.setRow _ _ (.inr (Nat.le_refl _))⟩
end
theorem adP(s:Nat){N:List Int}(h:N.length=17):prog.built 342 [(0,Value.pointer (some ⟨s,0,none⟩)),(1,Value.agg (ints N).toArray)]=some (dQ s N (List.replicate 34 false) (.slice none 0 0)).toArray:=by
 obtain⟨a,b,c,d,e,f,g,i,j,k,m,n,o,p,q,r,s,rfl⟩:=Kv h
 kernel_rfl
def jj(K:List Bool)(l:List Int):List Bool:=l.foldl k_ K
theorem I1(K:List Bool)(l:List Int):(jj K l).length=K.length:=by
 induction l generalizing K with
 |nil=>rfl
 |cons a r ih=>rw[jj,List.foldl_cons];exact(ih _).trans (I5 _ _)
theorem M_(K:List Bool){l:List Int}{j:Nat}{a:Int}(h:l[j]?=some a):jj K (l.take (j+1))=k_ (jj K (l.take j)) a:=by
 have az:j<l.length:=(List.getElem?_eq_some_iff.1 h).1;have hj:l[j]=a:=(List.getElem?_eq_some_iff.1 h).2;rw[List.take_succ_eq_append_getElem az,hj,jj,List.foldl_append];rfl
def K0:List Bool:=List.replicate 34 false
def nK(S:List Int):List Bool:=jj (jj (jj K0 [0,1]) (iR S)) (fH S)
def Eg(S:List Int):List Int:=(fE S+1)::(iR S++fH S)
theorem ahk{B:Nat}{w:World}{s d:Nat}{S:List Int}{L:List Wr}{wv:Value}(hs:oL w s d)(h:fL B w d S L wv)(SD:0≤fE S)(Am:fE S<1000000):aC prog 274 [.pointer (some ⟨s,0,none⟩)] w fun v w'=>∃c,v=.pointer (some ⟨c,0,none⟩)∧eh w.heap.size w' c s (Eg S) (nK S) (.slice none 0 0) [] []∧ae [] w w':=by
 refine aG 59 func274 ?_;refine au ?_;refine ai (.pointer (some ⟨d,0,none⟩)) (aB rfl (hs.cell rfl)) ?_;refine aj (aV rfl ((Wz h).mono ?_));rintro v w1⟨g,cap,rfl,ho,ah⟩;refine aj (aV rfl ((Xo ho h.len (by have:=Xp ho;omega)).mono ?_));rintro v w2⟨rfl,an⟩;have qV:=ah.dt an;have o7:=afw h.len;refine ai _ (bL _ rfl rfl (adP s o7) w2) ?_;refine aj (qG _ rfl rfl rfl ?_);have aw:=qV.alloc (.cells (dQ s (nA S) K0 (.slice none 0 0)).toArray 342);have aQ:=ak.new w2 (dQ s (nA S) K0 (.slice none 0 0)) 342;have h3:eh w.heap.size (w2.alloc (.cells (dQ s (nA S) K0 (.slice none 0 0)).toArray 342)) w2.heap.size s (nA S) K0 (.slice none 0 0) [] []:=
  ⟨aQ,qV.size,o7,rfl,Own.nil _ _ _ _,fun j d hd=>by simp at hd⟩
 rw[show(List.replicate 34 false)=K0 from rfl];clear aQ;generalize(w2.alloc (.cells (dQ s (nA S) K0 (.slice none 0 0)).toArray 342))=w3 at*;generalize w2.heap.size=c at*;refine au ?_;refine cP (fun m σ w'=>∃j,m=2-j∧j≤2∧σ=[(3,.pointer (some ⟨c,0,none⟩)),(18,.int .i64 (j:Nat))]∧ae [] w w'∧eh w.heap.size w' c s (nA S) (jj K0 (([0,1]:List Int).take j)) (.slice none 0 0) [] [])
  (2-0) _ ?_ ⟨0,rfl,by decide,rfl,aw,h3⟩ ?_
 ·exact⟨rfl,rfl,trivial⟩
 clear h3 aw;rintro m σ w4 ih⟨j,hm,hj,rfl,ax,h4⟩;refine au ?_;rcases Nat.lt_or_ge j 2 with az|ij
 ·refine ai (.bool true) (bP .i64 _ _ _ rfl (by simp[bU];omega) w4) ?_;refine au ?_;have HW:([0,1]:List Int)[j]?=some (j:Int):=by
   have:j=0∨j=1:=by omega
   rcases this with rfl|rfl<;>rfl
  refine aj (aV rfl ((JT h4 (j:Nat)).mono ?_));rintro v w5⟨rfl,h5,pR⟩;refine au ?_;refine ai (.int .i64 ((j+1:Nat):Int)) (bP .i64 j 1 _ rfl (by simp only[bU];rw[wrap_i64 (by omega) (by omega)];rfl) w5) ?_;refine au ?_;refine bj ?_ (ih (2-(j+1)) _ w5 (by omega) ⟨j+1,rfl,az,rfl,pR.keep ax (Nat.le_refl _),by rw[M_ K0 HW];exact h5⟩);exact⟨rfl,rfl,trivial⟩
 have tN:j=2:=by omega
 subst tN;clear ih hm hj ij;replace h4:eh w.heap.size w4 c s (nA S) (jj K0 [0,1]) (.slice none 0 0) [] []:=h4;generalize IB:jj K0 [0,1]=K1 at h4;refine ai (.bool false) (bP .i64 _ _ _ rfl (by simp[bU]) w4) ?_;refine au ?_;have t2:=Dh h.len;have IW:=zq h.len;have SU:=h4.Ku 1 2 (by decide);rw[show((nA S).drop 1).take 2=iR S by simp[nA,t2]]at SU;refine ai (.agg (ints (iR S)).toArray) (h_ _ hT rfl rfl (by rw[bQ,t2];rfl) SU) ?_;refine au ?_;refine cP (fun m σ w'=>∃j,m=2-j∧j≤2∧σ=[(3,.pointer (some ⟨c,0,none⟩)),(29,.agg (ints (iR S)).toArray),(30,.int .i64 (j:Nat))]∧ae [] w w'∧eh w.heap.size w' c s (nA S) (jj K1 ((iR S).take j)) (.slice none 0 0) [] [])
  (2-0) _ ?_ ⟨0,rfl,by decide,rfl,ax,h4⟩ ?_
 ·exact⟨rfl,rfl,rfl,trivial⟩
 clear h4 ax SU;rintro m σ w4 ih⟨j,hm,hj,rfl,ax,h4⟩;refine au ?_;rcases Nat.lt_or_ge j 2 with az|ij
 ·refine ai (.bool true) (bP .i64 _ _ _ rfl (by simp[bU];omega) w4) ?_;refine au ?_;obtain⟨a,ha⟩:∃a,(iR S)[j]?=some a:=⟨_,List.getElem?_eq_getElem (by omega)⟩;refine ai (.int .i64 a) (Kf _ j abb rfl rfl rfl rfl az ha w4) ?_;refine au ?_;refine aj (aV rfl ((JT h4 a).mono ?_));rintro v w5⟨rfl,h5,pR⟩;refine au ?_;refine ai (.int .i64 ((j+1:Nat):Int)) (bP .i64 j 1 _ rfl (by simp only[bU];rw[wrap_i64 (by omega) (by omega)];rfl) w5) ?_;refine au ?_;refine bj ?_ (ih (2-(j+1)) _ w5 (by omega) ⟨j+1,rfl,az,rfl,pR.keep ax (Nat.le_refl _),by rw[M_ K1 ha];exact h5⟩);exact⟨rfl,rfl,rfl,trivial⟩
 have tN:j=2:=by omega
 subst tN;clear ih hm hj ij;rw[List.take_of_length_le (by omega)]at h4;generalize RV:jj K1 (iR S)=K2 at h4;refine ai (.bool false) (bP .i64 _ _ _ rfl (by simp[bU]) w4) ?_;refine au ?_;have SV:=h4.Ku 3 14 (by decide);rw[show((nA S).drop 3).take 14=fH S by simp[nA,t2,List.take_of_length_le,IW]]at SV;refine ai (.agg (ints (fH S)).toArray) (h_ _ hT rfl rfl (by rw[bQ,IW];rfl) SV) ?_;refine au ?_;refine cP (fun m σ w'=>∃j,m=14-j∧j≤14∧σ=[(3,.pointer (some ⟨c,0,none⟩)),(41,.agg (ints (fH S)).toArray),(42,.int .i64 (j:Nat))]∧ae [] w w'∧eh w.heap.size w' c s (nA S) (jj K2 ((fH S).take j)) (.slice none 0 0) [] [])
  (14-0) _ ?_ ⟨0,rfl,by decide,rfl,ax,h4⟩ ?_
 ·exact⟨rfl,rfl,rfl,trivial⟩
 clear h4 ax SV;rintro m σ w4 ih⟨j,hm,hj,rfl,ax,h4⟩;refine au ?_;rcases Nat.lt_or_ge j 14 with az|ij
 ·refine ai (.bool true) (bP .i64 _ _ _ rfl (by simp[bU];omega) w4) ?_;refine au ?_;obtain⟨a,ha⟩:∃a,(fH S)[j]?=some a:=⟨_,List.getElem?_eq_getElem (by omega)⟩;refine ai (.int .i64 a) (Kf _ j abc rfl rfl rfl rfl az ha w4) ?_;refine au ?_;refine aj (aV rfl ((JT h4 a).mono ?_));rintro v w5⟨rfl,h5,pR⟩;refine au ?_;refine ai (.int .i64 ((j+1:Nat):Int)) (bP .i64 j 1 _ rfl (by simp only[bU];rw[wrap_i64 (by omega) (by omega)];rfl) w5) ?_;refine au ?_;refine bj ?_ (ih (14-(j+1)) _ w5 (by omega) ⟨j+1,rfl,az,rfl,pR.keep ax (Nat.le_refl _),by rw[M_ K2 ha];exact h5⟩);exact⟨rfl,rfl,rfl,trivial⟩
 have tN:j=14:=by omega
 subst tN;clear ih hm hj ij;rw[List.take_of_length_le (by omega)]at h4;refine ai (.bool false) (bP .i64 _ _ _ rfl (by simp[bU]) w4) ?_;refine au ?_;refine ai (.int .i64 (fE S)) (aB rfl (h4.PX (i:=0) rfl)) ?_;refine ai (.int .i64 (fE S+1)) (bP .i64 _ 1 _ rfl (by simp only[bU];rw[wrap_i64 (by omega) (by omega)]) w4) ?_;refine au ?_;refine aj (iL _ rfl rfl rfl rfl (by kernel_rfl) h4.af (by rw[Dc h4.iS h4.lj];simp) (by simp;rfl) ?_);rw[show b_ (dQ s (nA S) (jj K2 (fH S)) (.slice none 0 0)) (0+1+0) [.int .i64 (fE S+1)]=dQ s (Eg S) (jj K2 (fH S)) (.slice none 0 0) from(Nn 0 _ (by omega)).trans rfl];obtain⟨h5,pR,_⟩:=h4.put (Eg S) (jj K2 (fH S)) (by simp[Eg,t2,IW]) h4.lj;refine au ?_;refine ay func274 rfl ⟨c,rfl,?_,pR.keep ax (Nat.le_refl _)⟩;have e:nK S=jj K2 (fH S):=by rw[←RV,←IB];rfl
 rw[e];exact h5
def po(x:List Int×List Wr):kS→List Int×List Wr
 |none=>(settled (fun _=>true) x.2 x.1,[])
 |some (a,ws)=>(x.1,if hasB a then x.2++[(a.toNat,ws)]else x.2)
def gJ(D:List kS)(x:List Int×List Wr):List Int×List Wr:=D.foldl po x
theorem adQ{D:List kS}{j:Nat}{d:kS}(h:D[j]?=some d)(x:List Int×List Wr):gJ (D.take (j+1)) x=po (gJ (D.take j) x) d:=by
 have az:j<D.length:=(List.getElem?_eq_some_iff.1 h).1;have hj:D[j]=d:=(List.getElem?_eq_some_iff.1 h).2;rw[List.take_succ_eq_append_getElem az,hj,gJ,List.foldl_append];rfl
theorem Uc(D:List kS)(x:List Int×List Wr):(gJ D x).2.length≤x.2.length+D.length:=by
 induction D generalizing x with
 |nil=>simp[gJ]
 | cons d r ih=>
  have h1:=ih (po x d);have h2:(po x d).2.length≤x.2.length+1:=by
   cases d with
   |none=>simp[po]
   |some p=>simp only[po];split<;>simp
  simp only[gJ,List.foldl_cons,List.length_cons]at h1⊢;omega
theorem Ka{B:Nat}{w:World}{d:Nat}{S:List Int}{L:List Wr}{wv:Value}(h:fL B w d S L wv):∀k∈dh d wv,∀M e,ak w k M e→e=258∨e=320:=by
 intro k hk M e hb;simp only[dh,List.mem_cons,Option.mem_toList]at hk;rcases hk with rfl|hk
 ·exact .inl (Bo hb h.af)
 ·rcases h.owns.2 with⟨h1,_⟩|⟨g,cap,cur,h1,_,hg,_⟩
  ·rw[h1]at hk;simp[Value.ownBlock]at hk
  ·rw[h1]at hk;simp[Value.ownBlock]at hk;subst hk;refine .inr (Bo (L':=cur.toList) hb ?_);unfold ak;simpa using hg
section
variable{B Bd:Nat}{w:World}{c s d:Nat}{N:List Int}{K:List Bool}{dv:Value}{ed:List Value}{D:List kS}{S:List Int}{L:List Wr}{wv:Value}
theorem ajc(h:eh B w c s N K dv ed D)(hs:oL w s d)(hd:fL Bd w d S L wv)(hL:L.length<1000000){fv:Value}{de:kS}(hv:zT w c fv de):∃g cap,fv=.func (.func g) #[] (List.toArray cap)∧pd prog g=true∧aC prog g cap w fun v w'=>v=.tuple #[]∧∃lJ,fL Bd w' d (po (S,L) de).1 (po (S,L) de).2 lJ∧ae (dh d wv) w w'∧∀k∈dh d lJ,k∈dh d wv∨w.heap.size≤k:=by
 cases de with
 |none=>
  obtain⟨x,rfl,hx⟩:=hv;refine⟨_,[.pointer (some ⟨x,0,none⟩)],rfl,by decide+kernel,?_⟩;refine aG 9 func286 ?_;refine au ?_;refine ai (.pointer (some ⟨c,0,none⟩)) (aB rfl (hx.cell rfl)) ?_;refine au ?_;refine ai (.pointer (some ⟨s,0,none⟩)) (aB rfl h.amk) ?_;refine au ?_;refine ai (.pointer (some ⟨d,0,none⟩)) (aB rfl (hs.cell rfl)) ?_;refine aj (aV rfl ((agl hd hL).mono ?_));rintro v w1⟨rfl,h1,hk⟩;refine au ?_;refine bK func286 rfl ⟨rfl,_,h1,hk.mono fun k hk=>.inl (by simp at hk;simp[dh,hk]),fun k hk=>.inl ?_⟩;simp[dh,Value.ownBlock]at hk;simp[dh,hk]
 |some p=>
  obtain⟨x,y,z,rfl,hx,hy,hz,h8⟩:=hv;refine⟨_,[.pointer (some ⟨x,0,none⟩),.pointer (some ⟨y,0,none⟩),.pointer (some ⟨z,0,none⟩)],rfl,by decide+kernel,?_⟩;refine aG 13 func288 ?_;have bX:ae (dh d wv) w w.drew:=(ae.refl _ _).drew;have CW:=Ka hd;have uJ:x∉dh d wv:=fun hm=>absurd (CW x hm _ _ hx) (by decide);have Ip:y∉dh d wv:=fun hm=>absurd (CW y hm _ _ hy) (by decide);have hzn:z∉dh d wv:=fun hm=>absurd (CW z hm _ _ hz) (by decide);have vH:s∉dh d wv:=fun hm=>absurd (CW s hm _ _ hs) (by decide);have E5:c∉dh d wv:=fun hm=>absurd (CW c hm _ _ h.af) (by decide);refine au ?_;refine bC (fun w'=>ae (dh d wv) w w') [] bE ?_;refine aI 0 (.pointer (some ⟨c,0,none⟩)) rfl (fun w' hk=>aB rfl ((hk.af hx uJ).cell rfl)) bX ?_;refine tk 1 ?_;refine tk 2 ?_;refine aI 3 (.pointer (some ⟨s,0,none⟩)) rfl (fun w' hk=>aB rfl ((hk.af h.af E5).cell rfl)) bX ?_;refine tk 4 ?_;refine tk 5 ?_;refine aI 6 (.pointer (some ⟨d,0,none⟩)) rfl (fun w' hk=>aB rfl ((hk.af hs vH).cell rfl)) bX ?_;refine aI 7 (.int .i64 p.1) rfl (fun w' hk=>aB rfl ((hk.af hy Ip).cell rfl)) bX ?_;refine aI 8 (.agg (ints p.2).toArray) rfl (fun w' hk=>h_ _ hT rfl rfl (by rw[bQ,h8];rfl) ((hk.af hz hzn).range (by simp))) bX ?_;refine a8 9 rfl (aV rfl ((agj (hd.keep ((ae.refl [] _).drew) (by simp)) p.1 h8 hL).mono ?_));rintro v w1⟨rfl,lJ,h1,hk,hf⟩;refine⟨fun _=>bX.tr hk,?_⟩;refine bm ?_;exact bK func288 rfl ⟨rfl,lJ,h1,bX.tr hk,hf⟩
theorem als(h:eh B w c s N K dv ed D)(hs:oL w s d)(hd:fL Bd w d S L wv)(hL:L.length+D.length<1000000)(may:Int)(m:Nat)(hm:m=if may<0∨may≥D.length then D.length else may.toNat):aC prog 281 [.pointer (some ⟨c,0,none⟩),.int .i64 may] w fun v w'=>v=.bool (decide (may<0∨may≥D.length))∧∃lJ,fL Bd w' d (gJ (D.take m) (S,L)).1 (gJ (D.take m) (S,L)).2 lJ∧ae (dh d wv) w w'∧∀k∈dh d lJ,k∈dh d wv∨w.heap.size≤k:=by
 refine aG 40 func281 ?_;obtain⟨da,abf,IX⟩:=h.own.form;have yv:D.length≤abf:=by have:=h.own.akN;rw[IX]at this;exact this
 have hmD:m≤D.length:=by rw[hm];split<;>omega
 refine aP ?_;refine bT ?_;refine cH ?_;refine lP hT rfl rfl rfl ?_;refine fP ?_;refine bT ?_;refine fx (fun σ w'=>w'=w∧σ=[(0,.pointer (some ⟨c,0,none⟩)),(1,.int .i64 may),(5,.bool (decide (may<0∨may≥D.length)))]) ?_ ?_
 ·rintro σ w1⟨rfl,rfl⟩;refine bT ?_;refine fx (fun σ w'=>w'=w1∧σ=[(0,.pointer (some ⟨c,0,none⟩)),(1,.int .i64 (m:Nat)),(5,.bool (decide (may<0∨may≥D.length)))]) ?_ ?_
  ·rintro σ w2⟨rfl,rfl⟩;refine au ?_;refine ai dv (aB rfl h.PY) ?_;refine au ?_;refine ai _ (I7 m hT rfl (by rw[IX];rfl) rfl rfl rfl (by omega) w2) ?_;refine au ?_;refine cP (fun q σ w'=>∃j lJ,q=m-j∧j≤m∧σ=[(5,.bool (decide (may<0∨may≥D.length))),(30,.slice da m abf),(31,.int .i64 (m:Nat)),(32,.int .i64 (j:Nat))]∧
     fL Bd w' d (gJ (D.take j) (S,L)).1 (gJ (D.take j) (S,L)).2 lJ∧ae (dh d wv) w2 w'∧∀k∈dh d lJ,k∈dh d wv∨w2.heap.size≤k)
    (m-0) _ ?_ ⟨0,wv,rfl,Nat.zero_le _,rfl,hd,ae.refl _ _,fun k hk=>.inl hk⟩ ?_
   ·exact⟨rfl,rfl,rfl,rfl,trivial⟩
   rintro q σ w3 ih⟨j,lJ,hq,hj,rfl,AA,aw,ju⟩;have h3:eh B w3 c s N K dv ed D:=h.keep aw (Ka hd);have cw:oL w3 s d:=aw.af hs fun hm=>absurd (Ka hd s hm _ _ hs) (by decide);refine au ?_;rcases Nat.lt_or_ge j m with az|ij
   ·refine ai (.bool true) (bP .i64 _ _ _ rfl (by simp[bU];omega) w3) ?_;refine au ?_;obtain⟨de,MM⟩:∃de,D[j]?=some de:=⟨_,List.getElem?_eq_getElem (by omega)⟩;obtain⟨fv,II,hv⟩:=h3.fs j de MM;obtain⟨g',iF,abg,hr⟩:=h3.own.range (q:=j) (cs:=[fv]) (by
     have aoT:j<ed.length:=(List.getElem?_eq_some_iff.1 II).1;rw[List.drop_eq_getElem_cons aoT,(List.getElem?_eq_some_iff.1 II).2];rfl) (by omega)
    have hda:da=some ⟨g',0,none⟩:=by rw[IX]at abg;injection abg
    refine ai _ (A7 j hT rfl (by rw[hda];rfl) rfl rfl rfl az w3) ?_;refine ai fv (aB rfl (by rw[Nat.zero_add,Nat.mul_one];exact hr 0 fv rfl)) ?_;refine au ?_;have hlen:=Uc (D.take j) (S,L);rw[List.length_take]at hlen;obtain⟨g,cap,hfe,amm,aoU⟩:=ajc h3 cw AA (by have:=Nat.min_le_right j D.length;simp only at hlen;omega) hv;subst hfe;refine aj (rK (fst:=[]) (vs:=[]) (cap:=cap) rfl rfl rfl rfl amm (aoU.mono ?_));rintro v w4⟨rfl,SC,qB,ax,nq⟩;refine au ?_;refine ai (.int .i64 ((j+1:Nat):Int)) (bP .i64 j 1 _ rfl (by simp only[bU];rw[wrap_i64 (by omega) (by omega)];rfl) w4) ?_;refine au ?_;refine bj ?_ (ih (m-(j+1)) _ w4 (by omega) ⟨j+1,SC,rfl,az,rfl,by rw[adQ MM];exact qB,aw.trans ax ju,fun k hk=>?_⟩)
    ·exact⟨rfl,rfl,rfl,rfl,trivial⟩
    ·rcases nq k hk with h1|h1
     ·exact ju k h1
     ·exact .inr (Nat.le_trans aw.size h1)
   ·have Cz:j=m:=by omega
    subst Cz;refine ai (.bool false) (bP .i64 _ _ _ rfl (by simp[bU]) w3) ?_;refine au ?_;exact ay func281 rfl ⟨rfl,lJ,AA,aw,ju⟩
  intro zS;refine bT ?_;refine cH ?_;refine lP hT rfl rfl rfl ?_;refine fP ?_;by_cases y8:may<0∨may≥D.length
  ·refine tV (by rw[decide_eq_true y8];rfl) ?_;refine cH ?_
   repeat (first|refine lP hT rfl rfl rfl ?_)
   refine ai dv (aB rfl h.PY) ?_;refine ai (.int .i64 D.length) (Bf hT (by rw[IX];rfl) w1) ?_
   repeat (first|refine lP hT rfl rfl rfl ?_|refine fP ?_)
   refine bj ?_ (zS _ w1 ⟨rfl,rfl⟩);rw[show m=D.length by rw[hm,if_pos y8]];exact⟨rfl,rfl,rfl,trivial⟩
  ·refine tS (by rw[decide_eq_false y8];rfl) ?_;refine tU ?_;refine bj ?_ (zS _ w1 ⟨rfl,rfl⟩);have hmi:((m:Nat):Int)=may:=by rw[hm,if_neg y8];omega
   rw[hmi];exact⟨rfl,rfl,rfl,trivial⟩
 intro zS;refine cH ?_;refine lP hT rfl rfl rfl ?_;by_cases h0:may<0
 ·refine ai (.bool true) (bP .i64 may 0 _ rfl (by simp[bU,h0]) w) ?_
  repeat (first|refine lP hT rfl rfl rfl ?_|refine fP ?_|refine uS rfl rfl ?_)
  refine bj ?_ (zS _ w ⟨rfl,rfl⟩);rw[decide_eq_true (.inl h0)];exact⟨rfl,rfl,rfl,trivial⟩
 ·refine ai (.bool false) (bP .i64 may 0 _ rfl (by simp[bU,h0]) w) ?_
  repeat (first|refine lP hT rfl rfl rfl ?_)
  refine ai dv (aB rfl h.PY) ?_;refine ai (.int .i64 D.length) (Bf hT (by rw[IX];rfl) w) ?_;refine ai (.bool (decide (may≥D.length))) (bP .i64 may D.length _ rfl (by simp only[bU]) w) ?_
  repeat (first|refine lP hT rfl rfl rfl ?_|refine fP ?_)
  refine bj ?_ (zS _ w ⟨rfl,rfl⟩);rw[show decide (may<0∨may≥D.length)=decide (may≥D.length) by simp[h0]];exact⟨rfl,rfl,rfl,trivial⟩
end
structure um where
 N:List Int
 K:List Bool
 D:List kS
def HA(x:um)(p:Pg):um:=⟨x.N.set (3+p.1.toNat) (eF x.K:Nat),k_ x.K (eF x.K:Nat),x.D++[some (((eF x.K:Nat):Int),p.2)]⟩
def kt(x:um)(j:Nat):um:=⟨x.N.set (1+j) (eF x.K:Nat),k_ x.K (eF x.K:Nat),x.D++[some (((eF x.K:Nat):Int),mV x.N j)]⟩
def cW(S:List Int)(ps:List Pg):um:=ps.foldl HA ⟨Eg S,nK S,[]⟩
def sS(S:List Int)(ps:List Pg):um:=kt (kt (cW S ps) 0) 1
def PZ(x:um):Int×List Int:=((x.N.getD 0 0).tmod 2,rV x.N)
def lu(S:List Int)(ps:List Pg):List kS:=(sS S ps).D++[none]++[some (PZ (sS S ps))]++[none]
theorem FL(S:List Int){ps:List Pg}{j:Nat}{p:Pg}(h:ps[j]?=some p):cW S (ps.take (j+1))=HA (cW S (ps.take j)) p:=by
 have az:j<ps.length:=(List.getElem?_eq_some_iff.1 h).1;have hj:ps[j]=p:=(List.getElem?_eq_some_iff.1 h).2;rw[List.take_succ_eq_append_getElem az,hj,cW,List.foldl_append];rfl
theorem ahl(ps:List Pg)(x:um):(ps.foldl HA x).D.length=x.D.length+ps.length:=by
 induction ps generalizing x with
 |nil=>rfl
 |cons p r ih=>
  rw[List.foldl_cons,ih];simp[HA];omega
theorem N2(S:List Int)(ps:List Pg):(cW S ps).D.length=ps.length:=by rw[cW,ahl];simp
theorem Uj(S:List Int)(ps:List Pg):(lu S ps).length=ps.length+5:=by simp[lu,sS,kt,N2]
theorem NC{ps:List Pg}:∀{done:List Int},rP done ps=0→∀p∈ps,kQ p.1=true:=by
 induction ps with
 |nil=>simp
 | cons p r ih=>
  intro done h q hq;unfold rP at h;split at h
  ·cases h
  ·rename_i h1
   split at h
   ·cases h
   ·rcases List.mem_cons.1 hq with rfl|hq
    ·simpa using h1
    ·exact ih h q hq
section
variable{B Bp:Nat}{w:World}{s d:Nat}{pv:Value}{ps:List Pg}{S:List Int}{L:List Wr}{wv:Value}
theorem arf(hp:uL Bp w pv ps)(hlen:ps.length<1000)(may:Int)(hc:sA ps≠0):aC prog 265 [.pointer (some ⟨s,0,none⟩),pv,.int .i64 may] w fun v w'=>v=.tuple #[.bool false,.int .i64 (sA ps)]∧ae [] w w':=by
 refine aG 72 func265 ?_;refine au ?_;refine aj (aV rfl ((U7 hp (by omega)).mono ?_));rintro v w1⟨rfl,ah⟩;refine au ?_;refine ai (.bool true) (bP .i64 _ 0 _ rfl (by simp[bU,hc]) w1) ?_;refine au ?_;exact nH func265 rfl ⟨rfl,ah⟩
theorem afh(hs:oL w s d)(hd:fL B w d S L wv)(hp:uL Bp w pv ps)(hlen:ps.length<900)(hL:L.length<900)(SD:0≤fE S)(Am:fE S<1000000)(may:Int)(hc:sA ps=0) (m:Nat)(hm:m=if may<0∨may≥(ps.length+5:Nat)then ps.length+5 else may.toNat):aC prog 265 [.pointer (some ⟨s,0,none⟩),pv,.int .i64 may] w fun v w'=>v=.tuple #[.bool (decide (may<0∨may≥(ps.length+5:Nat))),.int .i64 0]∧∃lJ,fL B w' d (gJ ((lu S ps).take m) (S,L)).1 (gJ ((lu S ps).take m) (S,L)).2 lJ∧ae (dh d wv) w w'∧∀k∈dh d lJ,k∈dh d wv∨w.heap.size≤k:=by
 refine aG 72 func265 ?_;refine au ?_;refine aj (aV rfl ((U7 hp (by omega)).mono ?_));rintro v w1⟨rfl,ah⟩;rw[hc];refine au ?_;refine ai (.bool false) (bP .i64 _ 0 _ rfl rfl w1) ?_;refine au ?_;have bt:oL w1 s d:=ah.af hs (by simp);refine aj (aV rfl ((ahk bt (hd.keep ah (by simp)) SD Am).mono ?_));rintro v w2⟨c,rfl,h2,an⟩;have qV:=ah.dt an;have ny:w.heap.size≤w1.heap.size:=ah.size;generalize w1.heap.size=C at*;clear bt ah an;refine au ?_;obtain⟨pa,aob,Sr,_⟩:=hp.ex;refine ai (.int .i64 ps.length) (Bf hT (by rw[Sr];rfl) w2) ?_;refine au ?_;refine cP (fun q σ w'=>∃j dv ed,q=ps.length-j∧j≤ps.length∧σ=[(2,.int .i64 may),(9,.pointer (some ⟨c,0,none⟩)),(20,pv),(21,.int .i64 ps.length),(22,.int .i64 (j:Nat))]∧
   ae [] w w'∧eh C w' c s (cW S (ps.take j)).N (cW S (ps.take j)).K dv ed (cW S (ps.take j)).D)
  (ps.length-0) _ ?_ ⟨0,_,_,rfl,Nat.zero_le _,rfl,qV,h2⟩ ?_
 ·exact⟨rfl,rfl,rfl,rfl,rfl,trivial⟩
 clear h2 qV;rintro q σ w3 ih⟨j,dv,ed,hq,hj,rfl,aw,h3⟩;refine au ?_;rcases Nat.lt_or_ge j ps.length with az|ij
 ·refine ai (.bool true) (bP .i64 _ _ _ rfl (by simp[bU];omega) w3) ?_;refine au ?_;obtain⟨p,Fx⟩:∃p,ps[j]?=some p:=⟨_,List.getElem?_eq_getElem az⟩;have CE:=List.mem_of_getElem? Fx;have h8:=hp.wf p CE;have aoV:=NC hc p CE;have hi:0≤p.1∧p.1<14:=by simpa[kQ]using aoV
  obtain⟨b,o,cap,tF,_,hr⟩:=(hp.keep aw (by simp)).at Fx;refine ai _ (A7 j hT rfl (by rw[tF];rfl) rfl rfl rfl az w3) ?_;refine ai (.agg (dx p).toArray) (h_ _ hT rfl rfl (by rw[qF h8];rfl) hr) ?_;refine aj (nD _ rfl Jy ?_);have ax:=aw.alloc (.cells (dx (0,List.replicate 8 0)).toArray 337);have cy:=ak.new w3 (dx (0,List.replicate 8 0)) 337;have abh:ae [] w3 (w3.alloc (.cells (dx (0,List.replicate 8 0)).toArray 337)):=(ae.refl _ _).alloc _;have bw:=aw.size;generalize(w3.alloc (.cells (dx (0,List.replicate 8 0)).toArray 337))=w4 at*;refine au ?_;refine aj (iL _ rfl rfl rfl rfl (by rw[qF h8];decide+kernel) cy (by rw[qF h8];decide) (FZ _) ?_);rw[nG (by rw[qF h8];rfl)];have aE:=ax.setRow w3.heap.size (dx p).toArray (.inr bw);have gw:=cy.set (dx p);have kN:=abh.setRow w3.heap.size (dx p).toArray (.inr (Nat.le_refl _));have h5:=h3.aA kN;generalize(w4.setRow w3.heap.size (dx p).toArray)=w5 at*;generalize w3.heap.size=x at gw⊢;clear ax cy abh kN h3 aw;refine au ?_;have pW:ak w5.drew x (dx p) 337:=gw;refine bC (fun w'=>ak w' x (dx p) 337) [11] bE ?_;refine tk 0 ?_;refine tk 1 ?_;refine aI 2 (.int .i64 p.1) rfl (fun w' hk=>aB rfl (hk.cell rfl)) pW ?_;refine tk 3 ?_;refine tk 4 ?_;refine aI 5 (.agg (ints p.2).toArray) rfl (fun w' hk=>h_ _ hT rfl rfl (by rw[bQ,h8];rfl) (hk.range (by simp[dx]))) pW ?_;refine tk 7 ?_;refine tk 8 ?_;refine tk 9 ?_;have h6:=h5.aA ((ae.refl [] w5).drew);have hDl:(cW S (ps.take j)).D.length<1000:=by rw[N2,List.length_take];omega
  refine a8 6 rfl (aV rfl ((Yq h6 hDl h8).mono ?_));rintro v w7⟨rfl,⟨xR,LQ,h7⟩,o3⟩;refine⟨fun _=>o3.qE _ _ _ pW (by decide),?_⟩;refine bD 10 _ rfl (fun w'=>nC p.1.toNat hT rfl rfl rfl rfl (by omega) (by omega) w') ?_;refine a8 11 rfl (iL [.int .i64 (eF (cW S (ps.take j)).K:Nat)] rfl rfl rfl rfl (by kernel_rfl) h7.af (by rw[Dc h7.iS h7.lj];simp;omega) (by simp;rfl) ⟨fun hn=>absurd (by simp) hn,?_⟩);have o7:=h7.iS;rw[show b_ (dQ s (cW S (ps.take j)).N (k_ (cW S (ps.take j)).K (eF (cW S (ps.take j)).K:Nat)) xR) (0+1+3+p.1.toNat*1) [.int .i64 (eF (cW S (ps.take j)).K:Nat)]=
    dQ s (cW S (ps.take (j+1))).N (cW S (ps.take (j+1))).K xR by
   rw[FL S Fx,show 0+1+3+p.1.toNat*1=1+(3+p.1.toNat) by omega,Nn _ _ (by omega)];rfl]
  obtain⟨SW,vO,_⟩:=h7.put (cW S (ps.take (j+1))).N (cW S (ps.take (j+1))).K (by rw[FL S Fx];simp[HA,o7]) (by rw[FL S Fx];exact h7.lj);refine bm ?_;have aS:=vO.keep (o3.keep (aE.drew) ny) ny;generalize(w7.setRow c (dQ s (cW S (ps.take (j+1))).N (cW S (ps.take (j+1))).K xR).toArray)=w8 at*;refine au ?_;refine ai (.int .i64 ((j+1:Nat):Int)) (bP .i64 j 1 _ rfl (by simp only[bU];rw[wrap_i64 (by omega) (by omega)];rfl) w8) ?_;refine au ?_;refine bj ?_ (ih (ps.length-(j+1)) _ w8 (by omega) ⟨j+1,xR,LQ,rfl,az,rfl,aS,?_⟩)
  ·exact⟨rfl,rfl,rfl,rfl,rfl,trivial⟩
  ·rw[show(cW S (ps.take (j+1))).D=(cW S (ps.take j)).D++[some (((eF (cW S (ps.take j)).K:Nat):Int),p.2)] by rw[FL S Fx];rfl];exact SW
 refine ai (.bool false) (bP .i64 _ _ _ rfl (by simp[bU];omega) w3) ?_;clear ih;rw[List.take_of_length_le ij]at h3;refine au ?_;refine cP (fun q σ w'=>∃j dv ed X,q=2-j∧j≤2∧σ=[(2,.int .i64 may),(9,.pointer (some ⟨c,0,none⟩)),(38,.int .i64 (j:Nat))]∧
   ae [] w w'∧eh C w' c s X.N X.K dv ed X.D∧X=([0,1].take j).foldl kt (cW S ps))
  (2-0) _ ?_ ⟨0,_,_,cW S ps,rfl,Nat.zero_le _,rfl,aw,h3,rfl⟩ ?_
 ·exact⟨rfl,rfl,rfl,trivial⟩
 clear h3 aw;rintro q σ w3 ih⟨j,dv,ed,X,hq,hj,rfl,aw,h3,hX⟩;have hDX:X.D.length=ps.length+j:=by
  have:j=0∨j=1∨j=2:=by omega
  rcases this with rfl|rfl|rfl<;>rw[hX]<;>simp[kt,N2]
 refine au ?_;rcases Nat.lt_or_ge j 2 with az|ij
 ·refine ai (.bool true) (bP .i64 _ _ _ rfl (by simp[bU];omega) w3) ?_;refine au ?_;refine bC (fun w'=>True) [] bE ?_;refine tk 0 ?_;refine tk 1 ?_;refine tk 2 ?_;refine tk 3 ?_;refine tk 4 ?_;refine tk 5 ?_;refine tk 6 ?_;refine tk 9 ?_;refine tk 10 ?_;refine tk 11 ?_;have h4:=h3.aA ((ae.refl [] w3).drew);refine a8 7 rfl (aV rfl ((adh h4 j az).mono ?_));rintro v w5⟨rfl,aE⟩;refine⟨fun _=>trivial,?_⟩;have h5:=h4.aA aE;refine a8 8 rfl (aV rfl ((Yq h5 (by omega) (I6 h3.iS j)).mono ?_));rintro v w7⟨rfl,⟨xR,LQ,h7⟩,o3⟩;refine⟨fun _=>trivial,?_⟩;have o7:=h7.iS;refine bD 12 _ rfl (fun w'=>nC j hT rfl rfl rfl rfl rfl az w') ?_;refine a8 13 rfl (iL [.int .i64 (eF X.K:Nat)] rfl rfl rfl rfl (by kernel_rfl) h7.af (by rw[Dc h7.iS h7.lj];simp;omega) (by simp;rfl) ⟨fun _=>trivial,?_⟩);rw[show b_ (dQ s X.N (k_ X.K (eF X.K:Nat)) xR) (0+1+1+j*1) [.int .i64 (eF X.K:Nat)]=dQ s (kt X j).N (kt X j).K xR by
   rw[show 0+1+1+j*1=1+(1+j) by omega,Nn _ _ (by omega)];rfl]
  obtain⟨SW,vO,_⟩:=h7.put (kt X j).N (kt X j).K (by simp[kt,o7]) h7.lj;refine bm ?_;have aS:=vO.keep (o3.keep ((aw.drew).dt aE) ny) ny;generalize(w7.setRow c (dQ s (kt X j).N (kt X j).K xR).toArray)=w8 at*;refine au ?_;refine ai (.int .i64 ((j+1:Nat):Int)) (bP .i64 j 1 _ rfl (by simp only[bU];rw[wrap_i64 (by omega) (by omega)];rfl) w8) ?_;refine au ?_;refine bj ?_ (ih (2-(j+1)) _ w8 (by omega) ⟨j+1,xR,LQ,kt X j,rfl,az,rfl,aS,SW,?_⟩)
  ·exact⟨rfl,rfl,rfl,trivial⟩
  ·have:j=0∨j=1:=by omega
   rcases this with rfl|rfl<;>rw[hX]<;>rfl
 have tN:j=2:=by omega
 subst tN;clear ih ij hj;replace hX:X=sS S ps:=hX;subst hX;refine ai (.bool false) (bP .i64 _ _ _ rfl (by simp[bU]) w3) ?_;refine au ?_;refine aj (aV rfl ((U_ h3 (by omega)).mono ?_));rintro v w4⟨rfl,⟨dv4,asj,h4⟩,kf⟩;have ax:=kf.keep aw ny;refine au ?_;refine bC (fun w'=>True) [] bE ?_;refine tk 0 ?_;refine tk 1 ?_;refine tk 2 ?_;refine tk 3 ?_;refine tk 5 ?_;refine tk 6 ?_;refine tk 7 ?_;have h5:=h4.aA ((ae.refl [] w4).drew);refine a8 4 rfl (aV rfl ((afy h5).mono ?_));rintro v w5⟨rfl,rfl⟩;refine⟨fun _=>trivial,?_⟩;refine a8 8 rfl (aV rfl ((adi h5).mono ?_));rintro v w6⟨rfl,aD⟩;refine⟨fun _=>trivial,?_⟩;have h6:=h5.aA aD;have ql:=(ax.drew).dt aD;refine a8 9 rfl (aV rfl ((Va h6 (by simp;omega) ((sS S ps).N.getD 0 0|>.tmod 2) (ws:=rV (sS S ps).N) rfl).mono ?_));rintro v w7⟨rfl,⟨xR,LQ,h7⟩,o3⟩;refine⟨fun _=>trivial,?_⟩;refine bm ?_;have aN:=o3.keep ql ny;refine au ?_;refine aj (aV rfl ((U_ h7 (by simp;omega)).mono ?_));rintro v w8⟨rfl,⟨dv8,aoW,h8⟩,vO⟩;have aS:=vO.keep aN ny;refine au ?_;have h9:eh C w8 c s (sS S ps).N (sS S ps).K dv8 aoW (lu S ps):=h8;have xi:=Uj S ps;have Ie:=hd.keep aS (by simp);have jP:oL w8 s d:=aS.af hs (by simp);refine aj (aV rfl ((als h9 jP Ie (by rw[xi];omega) may m (by rw[xi];exact hm)).mono ?_));rintro v w9⟨rfl,lJ,Sz,bg,AB⟩;rw[xi];refine au ?_;refine nH func265 rfl ⟨rfl,lJ,Sz,(aS.bG).tr bg,fun k hk=>?_⟩;rcases AB k hk with h1|h1
 ·exact .inl h1
 ·exact .inr (Nat.le_trans aS.size h1)
end
end E
end Go.Proofs.YtoigoojdbpbhoagGreatDoor
